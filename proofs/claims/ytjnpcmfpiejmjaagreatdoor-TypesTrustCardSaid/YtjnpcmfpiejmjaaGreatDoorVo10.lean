/- Part 10 of the proof. -/
import Derived.Test.YtjnpcmfpiejmjaaGreatDoorVo1
import Derived.Test.YtjnpcmfpiejmjaaGreatDoorVo3
import Derived.Test.YtjnpcmfpiejmjaaGreatDoorVo4
import Derived.Test.YtjnpcmfpiejmjaaGreatDoorVo5
import Derived.Test.YtjnpcmfpiejmjaaGreatDoorVo9
namespace Go.Proofs.YtjnpcmfpiejmjaaGreatDoor
set_option linter.unusedVariables false
set_option linter.unusedSimpArgs false
open Go.RowKit
set_option maxRecDepth 100000
set_option linter.unusedSimpArgs false
set_option linter.unusedVariables false
structure VoOk (v : Vo) : Prop where
  k : -9223372036854775808 ≤ v.kind ∧ v.kind ≤ 9223372036854775807
  h : -9223372036854775808 ≤ v.height ∧ v.height ≤ 9223372036854775807
  r : -9223372036854775808 ≤ v.round ∧ v.round ≤ 9223372036854775807
abbrev sVote : ByteArray := { data := #[118, 111, 116, 101] }
/-- what is signed -/
def vbL (chain : ByteArray) (v : Vo) : List Int := ((((([] ++ (varint sVote.size ++ numsOf sVote)) ++ (varint chain.size ++ numsOf chain)) ++ varint (zig v.kind)) ++ varint (zig v.height)) ++ varint (zig v.round)) ++ rowL 32 v.blk
theorem glenT {n : Nat} (h : n < 18446744073709551616) : (varint n).length ≤ 10 := by
  have := glen_le h
  rw [varint_length]; omega
theorem rowT_yields {ops : Array Oper} {S : World → Prop} {op : Oper} {a : Act} (hw : Region.wanted op (yielded ops a.tmps) = true) (ty : TypeId) (x : Operand) (ho : op.op = .load ty x)
    (b o : Nat) (hx : a.eval x = .pointer (some ⟨b, o, none⟩)) (cs : Array Value) (d : TypeDesc) (hS : ∀ w, S w → w.rangeAt b o cs.toList)
    (hu : Tryz.prog.underlying ty = some d) (hd : d.isRow = true) (hi : (Tryz.prog.info? ty).map (·.size) = some cs.size) : YieldsIf Tryz.prog ops S op (.agg cs) a := by
  have h := yieldsIf_load_mid (P := Tryz.prog) (S := S) hw ty x ho b o hx cs.toList d hS hu hd (by rw [hi, Array.length_toList])
  simpa using h
def VbS (q : Nat) (v : Vo) (w : World) : Prop := w.heap[q]? = some (.cells (voC v) 46 (0, 0))
theorem VbS.below {q : Nat} {v : Vo} {w w' : World} (h : VbS q v w) (hb : Below w.heap.size w w') : VbS q v w' := (hb.block _ (bkT_lt h)).trans h
theorem wpT_next {g B : Nat} {v : Value} {xs ys : List Int} {w0 w w' : World} {e : Ending} (h : WPost g v xs ys w e w') (hw : WAt w g v xs) (hB : Below B w0 w) (hg : B ≤ g) : e = .returned (.pointer (some ⟨g, 0, none⟩)) ∧ ∃ v', WAt w' g v' (xs ++ ys) ∧ Below B w0 w' ∧ Below B w w' := by
  obtain ⟨h1, v', h2, h3⟩ := h
  exact ⟨h1, v', h2, hB.trans (h3.below hw hg), h3.below hw hg⟩
set_option maxHeartbeats 8000000 in
theorem votebytes_any (chain : ByteArray) (v : Vo) (w : World) (hc : chain.size ≤ 140737488351232) (hv : VoOk v) :
    Calls Tryz.prog 25 #[.string chain, .agg (voC v)] w fun e w' => ∃ vb, e = .returned vb ∧ BytesIn w' vb (vbL chain v) ∧ Below w.heap.size w w' := by
  have HB := Lib.hid (below_alloc w (.cells (voC v) 46))
  have HQ := Lib.hid (show VbS w.heap.size v (w.alloc (.cells (voC v) 46)) from heap_alloc_new w (.cells (voC v) 46))
  have HC := Lib.hid hc
  have HV := Lib.hid hv
  have HL0 := Lib.hid (show (varint sVote.size ++ numsOf sVote).length = 5 from by kernel_rfl)
  have HL1 := Lib.hid (show (varint chain.size ++ numsOf chain).length ≤ 140737488351242 from by rw [List.length_append, numsOf_length]; have := glenT (n := chain.size) (by omega); omega)
  have HL2 := Lib.hid (glenT (zig_lt hv.k.1 hv.k.2))
  have HL3 := Lib.hid (glenT (zig_lt hv.h.1 hv.h.2))
  have HL4 := Lib.hid (glenT (zig_lt hv.r.1 hv.r.2))
  have HL5 := Lib.hid (show (rowL 32 v.blk).length = 32 by simp [rowL])
  clear hc hv
  go_enter Tryz.func25, Tryz.ntmps25
  go_upto_region 1 with (fail)
  obtain ⟨q, hq⟩ : ∃ q, q = w.heap.size := ⟨_, rfl⟩
  have HQB := Lib.hid (show q < (w.alloc (.cells (voC v) 46)).heap.size by rw [hq]; simp)
  have HWQ := Lib.hid (show w.heap.size ≤ q by omega)
  rw [← hq] at HQ ⊢
  clear hq
  generalize w.alloc (.cells (voC v) 46) = w1 at *
  obtain ⟨B, hB⟩ : ∃ B, B = w1.heap.size := ⟨_, rfl⟩
  have HBE := Lib.hid hB
  refine wp_region_T (VbS q v) [0, 1, 2, 3, 4, 5, 6, 7, 8, 9, 10, 11, 12, 13, 14, 15, 16, 17] (by kernel_rfl) ?_
  replace HQ := Lib.hid (HQ.out.below (Below.refl _ _).drew)
  have HBW := Lib.hid (show Below B w1 w1.drew from (Below.refl _ _).drew)
  replace hB : B = w1.drew.heap.size := hB
  have HWB := Lib.hid (show w.heap.size ≤ B by rw [HBE.out]; exact HB.out.size)
  generalize w1.drew = w2 at *
  obtain ⟨KI, hKI⟩ : ∃ x, x = v.kind := ⟨_, rfl⟩
  obtain ⟨H, hH⟩ : ∃ x, x = v.height := ⟨_, rfl⟩
  obtain ⟨R, hR⟩ : ∃ x, x = v.round := ⟨_, rfl⟩
  have HKH := Lib.hid (show KI = v.kind ∧ H = v.height ∧ R = v.round from ⟨hKI, hH, hR⟩)
  clear hKI hH hR
  refine anyT_take [] (i := 2) (v := .string chain) rfl (by kernel_rfl) (by kernel_rfl) (by kernel_rfl) (fun _ _ _ h => h) (by kernel_rfl) (Or.inl ⟨by rfl, fun w' _ => by go_simp⟩) HQ.out ?_
  try simp only [List.getElem_toArray, List.getElem_cons_succ, List.getElem_cons_zero, Act.put, List.setIfInBounds_toArray, List.set_cons_zero, List.set_cons_succ]
  refine anyT_take [] (i := 4) (v := .pointer (some ⟨q, 0, none⟩)) rfl (by kernel_rfl) (by kernel_rfl) (by kernel_rfl) (fun _ _ _ h => h) (by kernel_rfl) (Or.inl ⟨by rfl, fun w' _ => by go_simp⟩) HQ.out ?_
  try simp only [List.getElem_toArray, List.getElem_cons_succ, List.getElem_cons_zero, Act.put, List.setIfInBounds_toArray, List.set_cons_zero, List.set_cons_succ]
  refine anyT_take [] (i := 7) (v := .pointer (some ⟨q, 1, none⟩)) rfl (by kernel_rfl) (by kernel_rfl) (by kernel_rfl) (fun _ _ _ h => h) (by kernel_rfl) (Or.inl ⟨by rfl, fun w' _ => by go_simp⟩) HQ.out ?_
  try simp only [List.getElem_toArray, List.getElem_cons_succ, List.getElem_cons_zero, Act.put, List.setIfInBounds_toArray, List.set_cons_zero, List.set_cons_succ]
  refine anyT_take [] (i := 10) (v := .pointer (some ⟨q, 2, none⟩)) rfl (by kernel_rfl) (by kernel_rfl) (by kernel_rfl) (fun _ _ _ h => h) (by kernel_rfl) (Or.inl ⟨by rfl, fun w' _ => by go_simp⟩) HQ.out ?_
  try simp only [List.getElem_toArray, List.getElem_cons_succ, List.getElem_cons_zero, Act.put, List.setIfInBounds_toArray, List.set_cons_zero, List.set_cons_succ]
  refine anyT_take [] (i := 13) (v := .pointer (some ⟨q, 3, none⟩)) rfl (by kernel_rfl) (by kernel_rfl) (by kernel_rfl) (fun _ _ _ h => h) (by kernel_rfl) (Or.inl ⟨by rfl, fun w' _ => by go_simp⟩) HQ.out ?_
  try simp only [List.getElem_toArray, List.getElem_cons_succ, List.getElem_cons_zero, Act.put, List.setIfInBounds_toArray, List.set_cons_zero, List.set_cons_succ]
  refine anyT_take [] (i := 5) (v := .int .i64 KI) rfl (by kernel_rfl) (by kernel_rfl) (by kernel_rfl) (fun _ _ _ h => h) (by kernel_rfl) (Or.inl ⟨by rfl, fun w' hS => by have c := (vo_cells hS).1; rw [← HKH.out.1] at c; go_simp⟩) HQ.out ?_
  try simp only [List.getElem_toArray, List.getElem_cons_succ, List.getElem_cons_zero, Act.put, List.setIfInBounds_toArray, List.set_cons_zero, List.set_cons_succ]
  refine anyT_take [] (i := 8) (v := .int .i64 H) rfl (by kernel_rfl) (by kernel_rfl) (by kernel_rfl) (fun _ _ _ h => h) (by kernel_rfl) (Or.inl ⟨by rfl, fun w' hS => by have c := (vo_cells hS).2.1; rw [← HKH.out.2.1] at c; go_simp⟩) HQ.out ?_
  try simp only [List.getElem_toArray, List.getElem_cons_succ, List.getElem_cons_zero, Act.put, List.setIfInBounds_toArray, List.set_cons_zero, List.set_cons_succ]
  refine anyT_take [] (i := 11) (v := .int .i64 R) rfl (by kernel_rfl) (by kernel_rfl) (by kernel_rfl) (fun _ _ _ h => h) (by kernel_rfl) (Or.inl ⟨by rfl, fun w' hS => by have c := (vo_cells hS).2.2.1; rw [← HKH.out.2.2] at c; go_simp⟩) HQ.out ?_
  try simp only [List.getElem_toArray, List.getElem_cons_succ, List.getElem_cons_zero, Act.put, List.setIfInBounds_toArray, List.set_cons_zero, List.set_cons_succ]
  refine anyT_take [] (i := 14) (v := .agg (rowOf .u8 32 v.blk)) rfl (by kernel_rfl) (by kernel_rfl) (by kernel_rfl) (fun _ _ _ h => h) (by kernel_rfl) (rowT_yields (by rfl) 32 (.tmp 18) rfl q 3 rfl _ _ (fun _ h => (vo_cells h).2.2.2.1) Tryz.underlying32 rfl (by rw [rowOf_size]; kernel_rfl)) HQ.out ?_
  try simp only [List.getElem_toArray, List.getElem_cons_succ, List.getElem_cons_zero, Act.put, List.setIfInBounds_toArray, List.set_cons_zero, List.set_cons_succ]
  refine anyT_one (i := 0) (by kernel_rfl) rfl (fun K hK => ?_)
  rw [if_pos (by rfl)]
  try simp only [List.getElem_toArray, List.getElem_cons_succ, List.getElem_cons_zero]
  (go_simp; (with_reducible refine (new_any w2).mono ?_); rintro e w3 ⟨rfl, hw, hb⟩; rw [← hB] at hw hb ⊢; clear hB; have HW := Lib.hid hw; replace HQ := Lib.hid (show VbS q v w3 from (hb.block _ (by have := HQB.out; rw [← HBE.out] at this; exact this)).trans HQ.out); replace HBW := Lib.hid (HBW.out.trans hb); clear hw hb)
  refine hK _ _ (fun _ => HQ.out) ?_
  clear hK K
  try simp only [List.getElem_toArray, List.getElem_cons_succ, List.getElem_cons_zero, Act.put, List.setIfInBounds_toArray, List.set_cons_zero, List.set_cons_succ]
  refine anyT_one (i := 1) (by kernel_rfl) rfl (fun K hK => ?_)
  rw [if_pos (by rfl)]
  try simp only [List.getElem_toArray, List.getElem_cons_succ, List.getElem_cons_zero]
  (go_simp; (with_reducible refine (wtext_any B _ sVote [] w3 HW.out (by rw [show sVote.size = 4 from rfl]; simp)).mono ?_); rintro e w4 hp; obtain ⟨rfl, v4, hw, hb, hb2⟩ := wpT_next hp HW.out HBW.out (Nat.le_refl _); replace HW := Lib.hid hw; replace HBW := Lib.hid hb; replace HQ := Lib.hid (show VbS q v w4 from (hb2.block _ (by have := HQB.out; rw [← HBE.out] at this; exact this)).trans HQ.out); clear hp hw hb hb2)
  refine hK _ _ (fun _ => HQ.out) ?_
  clear hK K
  try simp only [List.getElem_toArray, List.getElem_cons_succ, List.getElem_cons_zero, Act.put, List.setIfInBounds_toArray, List.set_cons_zero, List.set_cons_succ]
  refine anyT_one (i := 3) (by kernel_rfl) rfl (fun K hK => ?_)
  rw [if_pos (by rfl)]
  try simp only [List.getElem_toArray, List.getElem_cons_succ, List.getElem_cons_zero]
  (go_simp; (with_reducible refine (wtext_any B _ chain _ w4 HW.out (by rw [List.nil_append, HL0.out]; have := HC.out; omega)).mono ?_); rintro e w5 hp; obtain ⟨rfl, v5, hw, hb, hb2⟩ := wpT_next hp HW.out HBW.out (Nat.le_refl _); replace HW := Lib.hid hw; replace HBW := Lib.hid hb; replace HQ := Lib.hid (show VbS q v w5 from (hb2.block _ (by have := HQB.out; rw [← HBE.out] at this; exact this)).trans HQ.out); clear hp hw hb hb2)
  refine hK _ _ (fun _ => HQ.out) ?_
  clear hK K
  try simp only [List.getElem_toArray, List.getElem_cons_succ, List.getElem_cons_zero, Act.put, List.setIfInBounds_toArray, List.set_cons_zero, List.set_cons_succ]
  refine anyT_one (i := 6) (by kernel_rfl) rfl (fun K hK => ?_)
  rw [if_pos (by rfl)]
  try simp only [List.getElem_toArray, List.getElem_cons_succ, List.getElem_cons_zero]
  (go_simp; (with_reducible refine (wint_any B _ KI _ w5 HW.out (by rw [HKH.out.1]; exact HV.out.k.1) (by rw [HKH.out.1]; exact HV.out.k.2) (by rw [List.length_append, List.nil_append, HL0.out]; have := HL1.out; omega)).mono ?_); rintro e w6 hp; obtain ⟨rfl, v6, hw, hb, hb2⟩ := wpT_next hp HW.out HBW.out (Nat.le_refl _); replace HW := Lib.hid hw; replace HBW := Lib.hid hb; replace HQ := Lib.hid (show VbS q v w6 from (hb2.block _ (by have := HQB.out; rw [← HBE.out] at this; exact this)).trans HQ.out); clear hp hw hb hb2)
  refine hK _ _ (fun _ => HQ.out) ?_
  clear hK K
  try simp only [List.getElem_toArray, List.getElem_cons_succ, List.getElem_cons_zero, Act.put, List.setIfInBounds_toArray, List.set_cons_zero, List.set_cons_succ]
  refine anyT_one (i := 9) (by kernel_rfl) rfl (fun K hK => ?_)
  rw [if_pos (by rfl)]
  try simp only [List.getElem_toArray, List.getElem_cons_succ, List.getElem_cons_zero]
  (go_simp; (with_reducible refine (wint_any B _ H _ w6 HW.out (by rw [HKH.out.2.1]; exact HV.out.h.1) (by rw [HKH.out.2.1]; exact HV.out.h.2) (by rw [List.length_append, List.length_append, List.nil_append, HL0.out, HKH.out.1]; have := HL1.out; have := HL2.out; omega)).mono ?_); rintro e w7 hp; obtain ⟨rfl, v7, hw, hb, hb2⟩ := wpT_next hp HW.out HBW.out (Nat.le_refl _); replace HW := Lib.hid hw; replace HBW := Lib.hid hb; replace HQ := Lib.hid (show VbS q v w7 from (hb2.block _ (by have := HQB.out; rw [← HBE.out] at this; exact this)).trans HQ.out); clear hp hw hb hb2)
  refine hK _ _ (fun _ => HQ.out) ?_
  clear hK K
  try simp only [List.getElem_toArray, List.getElem_cons_succ, List.getElem_cons_zero, Act.put, List.setIfInBounds_toArray, List.set_cons_zero, List.set_cons_succ]
  refine anyT_one (i := 12) (by kernel_rfl) rfl (fun K hK => ?_)
  rw [if_pos (by rfl)]
  try simp only [List.getElem_toArray, List.getElem_cons_succ, List.getElem_cons_zero]
  (go_simp; (with_reducible refine (wint_any B _ R _ w7 HW.out (by rw [HKH.out.2.2]; exact HV.out.r.1) (by rw [HKH.out.2.2]; exact HV.out.r.2) (by rw [List.length_append, List.length_append, List.length_append, List.nil_append, HL0.out, HKH.out.1, HKH.out.2.1]; have := HL1.out; have := HL2.out; have := HL3.out; omega)).mono ?_); rintro e w8 hp; obtain ⟨rfl, v8, hw, hb, hb2⟩ := wpT_next hp HW.out HBW.out (Nat.le_refl _); replace HW := Lib.hid hw; replace HBW := Lib.hid hb; replace HQ := Lib.hid (show VbS q v w8 from (hb2.block _ (by have := HQB.out; rw [← HBE.out] at this; exact this)).trans HQ.out); clear hp hw hb hb2)
  refine hK _ _ (fun _ => HQ.out) ?_
  clear hK K
  try simp only [List.getElem_toArray, List.getElem_cons_succ, List.getElem_cons_zero, Act.put, List.setIfInBounds_toArray, List.set_cons_zero, List.set_cons_succ]
  refine anyT_one (i := 15) (by kernel_rfl) rfl (fun K hK => ?_)
  rw [if_pos (by rfl)]
  try simp only [List.getElem_toArray, List.getElem_cons_succ, List.getElem_cons_zero]
  (go_simp; (with_reducible refine (whash_any B _ _ v.blk w8 HW.out (by rw [List.length_append, List.length_append, List.length_append, List.length_append, List.nil_append, HL0.out, HKH.out.1, HKH.out.2.1, HKH.out.2.2]; have := HL1.out; have := HL2.out; have := HL3.out; have := HL4.out; omega)).mono ?_); rintro e w9 hp; obtain ⟨rfl, v9, hw, hb, hb2⟩ := wpT_next hp HW.out HBW.out (Nat.le_refl _); replace HW := Lib.hid (show WAt w9 B v9 (vbL chain v) from by unfold vbL; rw [← HKH.out.1, ← HKH.out.2.1, ← HKH.out.2.2]; exact hw); replace HBW := Lib.hid hb; replace HQ := Lib.hid (show VbS q v w9 from (hb2.block _ (by have := HQB.out; rw [← HBE.out] at this; exact this)).trans HQ.out); clear hp hw hb hb2)
  refine hK _ _ (fun _ => HQ.out) ?_
  clear hK K
  try simp only [List.getElem_toArray, List.getElem_cons_succ, List.getElem_cons_zero, Act.put, List.setIfInBounds_toArray, List.set_cons_zero, List.set_cons_succ]
  refine anyT_one (i := 16) (by kernel_rfl) rfl (fun K hK => ?_)
  rw [if_pos (by rfl)]
  try simp only [List.getElem_toArray, List.getElem_cons_succ, List.getElem_cons_zero]
  (go_simp; (with_reducible refine (done_any B v9 (vbL chain v) w9 HW.out (by have h0 := HL0.out; have h1 := HL1.out; have h2 := HL2.out; have h3 := HL3.out; have h4 := HL4.out; have h5 := HL5.out; unfold vbL; simp only [List.length_append, List.length_nil] at h0 h1 ⊢; omega)).mono ?_); rintro e w10 ⟨vb, rfl, ho, hb⟩; have HO := Lib.hid ho; replace HQ := Lib.hid (HQ.out.below hb); replace HBW := Lib.hid (HBW.out.trans (hb.mono (by have := HBW.out.size; rw [HBE.out]; exact this))); clear ho hb)
  refine hK _ _ (fun _ => HQ.out) ?_
  clear hK K
  try simp only [List.getElem_toArray, List.getElem_cons_succ, List.getElem_cons_zero, Act.put, List.setIfInBounds_toArray, List.set_cons_zero, List.set_cons_succ]
  refine anyT_take [] (i := 17) (v := vb) rfl (by kernel_rfl) (by kernel_rfl) (by kernel_rfl) (fun _ _ _ h => h) (by kernel_rfl) (Or.inl ⟨by rfl, fun w' _ => by go_simp⟩) HQ.out ?_
  try simp only [List.getElem_toArray, List.getElem_cons_succ, List.getElem_cons_zero, Act.put, List.setIfInBounds_toArray, List.set_cons_zero, List.set_cons_succ]
  refine anyT_done (by kernel_rfl) ?_ _
  go_wp2_with (fail)
  go_ret
  refine ⟨vb, rfl, owns_in HO.out ?_, HB.out.trans (HBW.out.mono HWB.out)⟩
  have h0 := HL0.out; have h1 := HL1.out; have h2 := HL2.out; have h3 := HL3.out; have h4 := HL4.out; have h5 := HL5.out
  unfold vbL maxLen
  simp only [List.length_append, List.length_nil] at h0 h1 ⊢
  omega
/-- a small depth -/
def cutE4 (E : Int) : Int := if 3 < E ∧ E ≤ 10 then E % 4 else E
theorem cutE4_same (D E : Int) : kOk D (cutE4 E) ↔ kOk D E := by
  unfold cutE4
  by_cases h : 3 < E ∧ E ≤ 10
  · rw [if_pos h]
    unfold kOk; omega
  · rw [if_neg h]
theorem par11_one (D E : Int) : (parC D E).all (·.oneCell') = true := by simp [parC, Value.oneCell']
theorem lcut11_any (D E : Int) (w : World) : Calls Tryz.prog 20 #[.agg (parC D E)] w fun e w' => e = .returned (.agg (parC D (cutE4 E))) ∧ Below w.heap.size w w' := by
  have h1 := heap_alloc_new w (.cells (parC D E) 42)
  have hb1 := below_alloc w (.cells (parC D E) 42)
  have hb2 := below_alloc (w.alloc (.cells (parC D E) 42)) (.cells (parC 0 0) 42)
  have h2 := heap_alloc_new (w.alloc (.cells (parC D E) 42)) (.cells (parC 0 0) 42)
  rw [show (w.alloc (.cells (parC D E) 42)).heap.size = w.heap.size + 1 by simp] at h2 hb2
  have H1 := Lib.hid ((hb2.block _ (by omega)).trans h1)
  have H2 := Lib.hid h2
  have HB := Lib.hid (hb1.trans (hb2.mono (by omega)))
  clear h1 h2 hb1 hb2
  by_cases h : 3 < E ∧ E ≤ 10
  · obtain ⟨hx, hy⟩ := h
    have HC := Lib.hid (show cutE4 E = E % 4 by unfold cutE4; rw [if_pos ⟨hx, hy⟩])
    go_enter Tryz.func20, Tryz.ntmps20
    go_upto_region 1 with (fail)
    rw [show #[Value.int .i64 0, .int .i64 0] = parC 0 0 from rfl]
    generalize (w.alloc (.cells (parC D E) 42)).alloc (.cells (parC 0 0) 42) = w1 at *
    have c1 : w1.cell? ⟨w.heap.size, 1, none⟩ = some (.int .i64 E) := by rw [cell_of_row _ _ _ _ _ _ H1.out]; rfl
    have f1 : w1.frozen? ⟨w.heap.size, 1, none⟩ = false := frozen_of_row _ _ _ _ _ H1.out
    go_upto_region 3 with (fail)
    have HO := Lib.hid (Only.setCell w1 ⟨w.heap.size, 1, none⟩ (.int .i64 (E % 4)))
    replace H1 := Lib.hid (show (w1.setCell ⟨w.heap.size, 1, none⟩ (.int .i64 (E % 4))).heap[w.heap.size]? = some (.cells (parC D (E % 4)) 42 (0, 0)) by rw [heap_setCell_same w1 w.heap.size 1 _ _ _ H1.out]; rfl)
    replace H2 := Lib.hid ((HO.out.block (w.heap.size + 1) (Array.getElem?_eq_some_iff.1 H2.out).1 (by show _ ≠ w.heap.size; omega)).trans H2.out)
    replace HB := Lib.hid (HB.out.trans (HO.out.below (Nat.le_refl _) HB.out.size))
    clear c1 f1 HO
    generalize w1.setCell ⟨w.heap.size, 1, none⟩ (.int .i64 (E % 4)) = w2 at *
    go_wp2_with (first
      | (refine wpList_load_row rfl 42 (.tmp 1) rfl w.heap.size rfl 42 _ (0, 0) _ H1.out Tryz.underlying42 rfl (by kernel_rfl) ?_)
      | (refine wpList_store_row rfl 42 (.tmp 2) (.tmp 15) rfl (w.heap.size + 1) (parC D (E % 4)) rfl rfl 42 _ H2.out (by kernel_rfl) (by rfl) (par11_one _ _) ?_))
    refine bodyPost_ret (results_cell_row rfl _ _ (w.heap.size + 1) 42 (parC D (E % 4)) (0, 0) _ rfl (setRow_heap _ _ _ _ _ _ H2.out) Tryz.underlying42 rfl (by kernel_rfl)) rfl ?_
    rw [HC.out]
    exact ⟨rfl, below_setRow HB.out (by omega) _⟩
  · have HC := Lib.hid (show cutE4 E = E by unfold cutE4; rw [if_neg h])
    rcases (by omega : ¬ 3 < E ∨ (3 < E ∧ ¬ E ≤ 10)) with hx | ⟨hx, hy⟩
    all_goals
      clear h
      go_enter Tryz.func20, Tryz.ntmps20
      go_upto_region 1 with (fail)
      rw [show #[Value.int .i64 0, .int .i64 0] = parC 0 0 from rfl]
      generalize (w.alloc (.cells (parC D E) 42)).alloc (.cells (parC 0 0) 42) = w1 at *
      have c1 : w1.cell? ⟨w.heap.size, 1, none⟩ = some (.int .i64 E) := by rw [cell_of_row _ _ _ _ _ _ H1.out]; rfl
      go_upto_region 3 with (fail)
      clear c1
      go_wp2_with (first
        | (refine wpList_load_row rfl 42 (.tmp 1) rfl w.heap.size rfl 42 _ (0, 0) _ H1.out Tryz.underlying42 rfl (by kernel_rfl) ?_)
        | (refine wpList_store_row rfl 42 (.tmp 2) (.tmp 15) rfl (w.heap.size + 1) (parC D E) rfl rfl 42 _ H2.out (by kernel_rfl) (by rfl) (par11_one _ _) ?_))
      refine bodyPost_ret (results_cell_row rfl _ _ (w.heap.size + 1) 42 (parC D E) (0, 0) _ rfl (setRow_heap _ _ _ _ _ _ H2.out) Tryz.underlying42 rfl (by kernel_rfl)) rfl ?_
      rw [HC.out]
      exact ⟨rfl, below_setRow HB.out (by omega) _⟩
end Go.Proofs.YtjnpcmfpiejmjaaGreatDoor
namespace Go.Proofs.YtjnpcmfpiejmjaaGreatDoor
set_option linter.unusedVariables false
set_option linter.unusedSimpArgs false
/-- a number as the unsigned one of the same 64 bits -/
def uN (i : Int) : Nat := (IntKind.u64.wrap i).toNat
theorem uN_wrap (i : Int) : IntKind.u64.wrap i = ((uN i : Nat) : Int) := by
  unfold uN
  have : IntKind.u64.wrap i = i % 18446744073709551616 := rfl
  rw [this]; omega
theorem uN_lt (i : Int) : uN i < 18446744073709551616 := by
  unfold uN
  have : IntKind.u64.wrap i = i % 18446744073709551616 := rfl
  rw [this]; omega
/-- a chain's beginning -/
def startF (seed : Nat → Int) (leaf chain : Int) : Nat → Int := sumF (varint 2 ++ rowL 32 seed ++ varint (uN leaf) ++ varint (uN chain))
/-- one step further, from place p on -/
def step1 (leaf chain : Int) (v : Nat → Int) (p : Nat) : Nat → Int := sumF (varint 3 ++ varint (uN leaf) ++ varint (uN chain) ++ varint p ++ rowL 32 v)
/-- n steps from place p on -/
def stepN (leaf chain : Int) (v : Nat → Int) (p : Nat) : Nat → (Nat → Int)
  | 0 => v
  | n + 1 => step1 leaf chain (stepN leaf chain v p n) (p + n)
theorem stepN_add (leaf chain : Int) (v : Nat → Int) (p m : Nat) : ∀ n, stepN leaf chain (stepN leaf chain v p m) (p + m) n = stepN leaf chain v p (m + n)
  | 0 => rfl
  | n + 1 => by
    show step1 leaf chain (stepN leaf chain (stepN leaf chain v p m) (p + m) n) (p + m + n) = step1 leaf chain (stepN leaf chain v p (m + n)) (p + (m + n))
    rw [stepN_add leaf chain v p m n, Nat.add_assoc]
/-- a chain's value brought from place a to place b -/
def stepF (v : Nat → Int) (leaf chain a b : Int) : Nat → Int := stepN leaf chain v (max a 0).toNat ((min b 15).toNat - (max a 0).toNat)
theorem stepF_nat (v : Nat → Int) (leaf chain : Int) (a b : Nat) (hb : b ≤ 15) : stepF v leaf chain (a : Int) (b : Int) = stepN leaf chain v a (b - a) := by
  unfold stepF
  rw [show (max (a : Int) 0).toNat = a by omega, show (min (b : Int) 15).toNat = b by omega]
/-- on, and on again -/
theorem stepF_on (v : Nat → Int) (leaf chain : Int) (a b c : Nat) (hab : a ≤ b) (hbc : b ≤ c) (hc : c ≤ 15) : stepF (stepF v leaf chain a b) leaf chain b c = stepF v leaf chain a c := by
  rw [stepF_nat v _ _ a b (by omega), stepF_nat _ _ _ b c hc, stepF_nat v _ _ a c hc]
  have h := stepN_add leaf chain v a (b - a) (c - b)
  rw [show a + (b - a) = b by omega, show b - a + (c - b) = c - a by omega] at h
  exact h
theorem stepF_stay (v : Nat → Int) (leaf chain : Int) (b : Nat) (hb : b ≤ 15) : stepF v leaf chain b b = v := by
  rw [stepF_nat _ _ _ _ _ hb, Nat.sub_self]; rfl
/-- the digits of the bytes of a digest -/
def digs : List Int → List Nat
  | [] => []
  | x :: r => x.toNat / 16 :: x.toNat % 16 :: digs r
theorem digs_length : ∀ xs, (digs xs).length = 2 * xs.length
  | [] => rfl
  | x :: r => by simp only [digs, List.length_cons, digs_length r]; omega
theorem digs_append : ∀ xs ys, digs (xs ++ ys) = digs xs ++ digs ys
  | [], _ => rfl
  | x :: r, ys => by simp only [digs, List.cons_append, digs_append r ys]
theorem digs_le : ∀ {xs : List Int}, bytesOk xs → ∀ d ∈ digs xs, d ≤ 15
  | [], _, d, h => by cases h
  | x :: r, hb, d, h => by
    have hx := hb x (by simp)
    simp only [digs, List.mem_cons] at h
    rcases h with rfl | rfl | h
    · omega
    · omega
    · exact digs_le (fun y hy => hb y (by simp [hy])) d h
/-- what digits lack to 15, together -/
def lacks : List Nat → Nat
  | [] => 0
  | d :: r => (15 - d) + lacks r
theorem lacks_append : ∀ a b, lacks (a ++ b) = lacks a + lacks b
  | [], b => by simp [lacks]
  | d :: r, b => by simp only [lacks, List.cons_append, lacks_append r b]; omega
theorem lacks_le : ∀ l, lacks l ≤ 15 * l.length
  | [] => by simp [lacks]
  | d :: r => by have := lacks_le r; simp only [lacks, List.length_cons]; omega
/-- the digits of a digest, with those of the sum -/
def digF (xs : List Int) : List Nat := digs xs ++ [lacks (digs xs) / 256, lacks (digs xs) / 16 % 16, lacks (digs xs) % 16]
theorem digF_length (xs : List Int) : (digF xs).length = 2 * xs.length + 3 := by simp [digF, digs_length]
theorem lacks_bound {xs : List Int} (h : xs.length ≤ 32) : lacks (digs xs) ≤ 960 := by
  have := lacks_le (digs xs); rw [digs_length] at this; omega
theorem digF_le {xs : List Int} (hb : bytesOk xs) (hl : xs.length ≤ 32) : ∀ d ∈ digF xs, d ≤ 15 := by
  intro d h
  have := lacks_bound hl
  simp only [digF, List.mem_append, List.mem_cons, List.not_mem_nil, or_false] at h
  rcases h with h | rfl | rfl | rfl
  · exact digs_le hb d h
  all_goals omega
/-- the digest's digits say the digest -/
theorem digs_inj : ∀ {xs ys : List Int}, bytesOk xs → bytesOk ys → digs xs = digs ys → xs = ys
  | [], [], _, _, _ => rfl
  | [], y :: s, _, _, h => by simp [digs] at h
  | x :: r, [], _, _, h => by simp [digs] at h
  | x :: r, y :: s, hx, hy, h => by
    simp only [digs, List.cons.injEq] at h
    have h1 := hx x (by simp)
    have h2 := hy y (by simp)
    rw [digs_inj (fun z hz => hx z (by simp [hz])) (fun z hz => hy z (by simp [hz])) h.2.2, show x = y by omega]
/-- a digit of a that is greater than b's -/
def gtB : List Nat → List Nat → Bool
  | x :: a, y :: b => decide (y < x) || gtB a b
  | _, _ => false
theorem gtB_append : ∀ {a b : List Nat} (c d : List Nat), a.length = b.length → gtB (a ++ c) (b ++ d) = (gtB a b || gtB c d)
  | [], [], c, d, _ => by simp [gtB]
  | [], _ :: _, _, _, h => by cases h
  | _ :: _, [], _, _, h => by cases h
  | x :: a, y :: b, c, d, h => by simp only [List.cons_append, gtB, gtB_append c d (by simpa using h), Bool.or_assoc]
/-- where none of a is greater than b's, a lacks at least as much; as much only where they are the same -/
theorem lacks_mono : ∀ {a b : List Nat}, a.length = b.length → (∀ d ∈ b, d ≤ 15) → gtB a b = false → lacks b ≤ lacks a ∧ (lacks a = lacks b → a = b)
  | [], [], _, _, _ => by simp [lacks]
  | [], _ :: _, h, _, _ => by cases h
  | _ :: _, [], h, _, _ => by cases h
  | x :: a, y :: b, h, hb, hg => by
    simp only [gtB, Bool.or_eq_false_iff, decide_eq_false_iff_not, Nat.not_lt] at hg
    obtain ⟨h1, h2⟩ := lacks_mono (by simpa using h) (fun d hd => hb d (by simp [hd])) hg.2
    have hy := hb y (by simp)
    simp only [lacks]
    refine ⟨by omega, fun he => ?_⟩
    rw [show x = y by omega, h2 (by omega)]
theorem gt3 (m n : Nat) (h : n < m) : gtB [m / 256, m / 16 % 16, m % 16] [n / 256, n / 16 % 16, n % 16] = true := by
  simp only [gtB, Bool.or_eq_true, decide_eq_true_eq, Bool.or_false]
  omega
/-- of two unlike digests of one length each has a digit that is greater than the other's -/
theorem digF_gt {xs ys : List Int} (hx : bytesOk xs) (hy : bytesOk ys) (hl : xs.length = ys.length) (hne : xs ≠ ys) : gtB (digF xs) (digF ys) = true := by
  unfold digF
  rw [gtB_append _ _ (by rw [digs_length, digs_length, hl]), Bool.or_eq_true]
  by_cases hg : gtB (digs xs) (digs ys) = true
  · exact .inl hg
  · right
    obtain ⟨h1, h2⟩ := lacks_mono (a := digs xs) (b := digs ys) (by rw [digs_length, digs_length, hl]) (digs_le hy) (by simpa using hg)
    refine gt3 _ _ ?_
    rcases Nat.lt_or_ge (lacks (digs ys)) (lacks (digs xs)) with h | h
    · exact h
    · exact absurd (digs_inj hx hy (h2 (by omega))) hne
/-- the values of all chains, brought to their places, one behind the other -/
def chainsF (seed : Nat → Int) (leaf : Int) : Nat → List Nat → List Int
  | _, [] => []
  | c, d :: r => rowL 32 (stepF (startF seed leaf (c : Int)) leaf (c : Int) 0 (d : Int)) ++ chainsF seed leaf (c + 1) r
theorem rowL_length (n : Nat) (f : Nat → Int) : (rowL n f).length = n := by simp [rowL]
theorem chainsF_length (seed : Nat → Int) (leaf : Int) : ∀ (l : List Nat) (c : Nat), (chainsF seed leaf c l).length = 32 * l.length
  | [], _ => rfl
  | d :: r, c => by simp only [chainsF, List.length_append, rowL_length, chainsF_length seed leaf r (c + 1), List.length_cons]; omega
theorem chainsF_append (seed : Nat → Int) (leaf : Int) : ∀ (l m : List Nat) (c : Nat), chainsF seed leaf c (l ++ m) = chainsF seed leaf c l ++ chainsF seed leaf (c + l.length) m
  | [], m, c => by simp [chainsF]
  | d :: r, m, c => by
    simp only [List.cons_append, chainsF, chainsF_append seed leaf r m (c + 1), List.append_assoc, List.length_cons]
    rw [show c + 1 + r.length = c + (r.length + 1) by omega]
theorem chainsF_snoc (seed : Nat → Int) (leaf : Int) (l : List Nat) (k : Nat) (d : Nat) (h : l[k]? = some d) : chainsF seed leaf 0 (l.take (k + 1)) = chainsF seed leaf 0 (l.take k) ++ rowL 32 (stepF (startF seed leaf (k : Int)) leaf (k : Int) 0 (d : Int)) := by
  have hlt : k < l.length := (List.getElem?_eq_some_iff.1 h).1
  rw [List.take_add_one, h, Option.toList_some, chainsF_append, List.length_take, Nat.min_eq_left (by omega), Nat.zero_add]
  simp [chainsF]
/-- what a signature's values make, brought on from their digits to the end -/
def endsF (leaf : Int) : Nat → List Nat → List Int → List Int
  | _, [], _ => []
  | c, d :: r, s => rowL 32 (stepF (fun i => (s.take 32).getD i 0) leaf (c : Int) (d : Int) 15) ++ endsF leaf (c + 1) r (s.drop 32)
theorem endsF_length (leaf : Int) : ∀ (l : List Nat) (c : Nat) (s : List Int), (endsF leaf c l s).length = 32 * l.length
  | [], _, _ => rfl
  | d :: r, c, s => by simp only [endsF, List.length_append, rowL_length, endsF_length leaf r (c + 1), List.length_cons]; omega
theorem endsF_append (leaf : Int) : ∀ (l m : List Nat) (c : Nat) (s : List Int), endsF leaf c (l ++ m) s = endsF leaf c l s ++ endsF leaf (c + l.length) m (s.drop (32 * l.length))
  | [], m, c, s => by simp [endsF]
  | d :: r, m, c, s => by
    simp only [List.cons_append, endsF, endsF_append leaf r m (c + 1), List.append_assoc, List.length_cons, List.drop_drop]
    rw [show c + 1 + r.length = c + (r.length + 1) by omega, show 32 + 32 * r.length = 32 * (r.length + 1) by omega]
theorem endsF_snoc (leaf : Int) (l : List Nat) (k : Nat) (d : Nat) (s : List Int) (h : l[k]? = some d) : endsF leaf 0 (l.take (k + 1)) s = endsF leaf 0 (l.take k) s ++ rowL 32 (stepF (fun i => ((s.drop (32 * k)).take 32).getD i 0) leaf (k : Int) (d : Int) 15) := by
  have hlt : k < l.length := (List.getElem?_eq_some_iff.1 h).1
  rw [List.take_add_one, h, Option.toList_some, endsF_append, List.length_take, Nat.min_eq_left (by omega), Nat.zero_add]
  simp [endsF]
theorem rowL_congr {n : Nat} {f g : Nat → Int} (h : ∀ i, i < n → f i = g i) : rowL n f = rowL n g := by
  unfold rowL
  exact List.map_congr_left fun i hi => h i (by simpa using hi)
theorem step1_congr {leaf chain : Int} {f g : Nat → Int} {p : Nat} (h : ∀ i, i < 32 → f i = g i) : step1 leaf chain f p = step1 leaf chain g p := by
  unfold step1; rw [rowL_congr h]
theorem stepN_congr {leaf chain : Int} {f g : Nat → Int} {p : Nat} (h : ∀ i, i < 32 → f i = g i) : ∀ n i, i < 32 → stepN leaf chain f p n i = stepN leaf chain g p n i
  | 0, i, hi => h i hi
  | n + 1, i, hi => by
    show step1 leaf chain (stepN leaf chain f p n) (p + n) i = step1 leaf chain (stepN leaf chain g p n) (p + n) i
    rw [step1_congr (stepN_congr h n)]
theorem stepF_congr {leaf chain a b : Int} {f g : Nat → Int} (h : ∀ i, i < 32 → f i = g i) : rowL 32 (stepF f leaf chain a b) = rowL 32 (stepF g leaf chain a b) :=
  rowL_congr (stepN_congr h _)
theorem rowL_getD (n : Nat) (f : Nat → Int) (i : Nat) (h : i < n) : (rowL n f).getD i 0 = f i := by simp [rowL, List.getD, h]
/-- a signature makes the public sum -/
theorem ends_chains (seed : Nat → Int) (leaf : Int) : ∀ (l : List Nat) (c : Nat), (∀ d ∈ l, d ≤ 15) → endsF leaf c l (chainsF seed leaf c l) = chainsF seed leaf c (List.replicate l.length 15)
  | [], _, _ => rfl
  | d :: r, c, h => by
    have hl := rowL_length 32 (stepF (startF seed leaf (c : Int)) leaf (c : Int) 0 (d : Int))
    simp only [chainsF, endsF, List.length_cons, List.replicate_succ]
    rw [List.take_left' hl, List.drop_left' hl, ends_chains seed leaf r (c + 1) (fun x hx => h x (by simp [hx]))]
    have e := stepF_on (startF seed leaf (c : Int)) leaf (c : Int) 0 d 15 (Nat.zero_le _) (h d (by simp)) (Nat.le_refl _)
    rw [stepF_congr (g := stepF (startF seed leaf (c : Int)) leaf (c : Int) 0 (d : Int)) (fun i hi => rowL_getD _ _ _ hi)]
    rw [show ((0 : Nat) : Int) = 0 from rfl] at e
    rw [show ((15 : Nat) : Int) = 15 from rfl] at e ⊢
    rw [e]
/-- a leaf's sum -/
def leafF (xs : List Int) : Nat → Int := sumF (0 :: xs)
def pubF (seed : Nat → Int) (leaf : Int) (n : Nat) : Nat → Int := leafF (chainsF seed leaf 0 (List.replicate (2 * n + 3) 15))
def signF (seed : Nat → Int) (leaf : Int) (d : List Int) : List Int := chainsF seed leaf 0 (digF d)
def fromF (s : List Int) (leaf : Int) (d : List Int) : Nat → Int := leafF (endsF leaf 0 (digF d) s)
theorem from_sign (seed : Nat → Int) (leaf : Int) (d : List Int) (hb : bytesOk d) (hl : d.length ≤ 32) : fromF (signF seed leaf d) leaf d = pubF seed leaf d.length := by
  unfold fromF signF pubF
  rw [ends_chains seed leaf _ _ (digF_le hb hl), digF_length]
/-- may a leaf and a digest's length be? -/
def leafOk (leaf : Int) : Prop := 0 ≤ leaf ∧ leaf < 1024
end Go.Proofs.YtjnpcmfpiejmjaaGreatDoor
namespace Go.Proofs.YtjnpcmfpiejmjaaGreatDoor
set_option linter.unusedVariables false
set_option linter.unusedSimpArgs false
open Go.RowKit
theorem wpList_min2 {P : Program} {w : World} {ops : Array Oper} {rest : List Oper} {o : Oper} {a : Act} {Q : Exit → Act → World → Prop} (hgd : o.guard = none) (x y : Operand) (t : TypeId)
    (ho : o.op = .call { callee := .builtin .min, args := #[x, y], argTypes := #[t, t] }) (p q : Int) (hx : a.eval x = .int .i64 p) (hy : a.eval y = .int .i64 q) (r : Int) (hr : min p q = r)
    (h : wpList P ops Q rest (a.put o.dst (.int .i64 r)) w) : wpList P ops Q (o :: rest) a w := by
  refine wpList_plain hgd fun K hK => ?_
  have hrun := run_min_int2 (P := P) (w := w) #[t, t] o.type .i64 .i64 p q
  rw [show (if q < p then q else p) = r by rw [← hr]; split <;> omega] at hrun
  unfold Oper.wp
  simp only [execOp, ho, resolve, invoke, builtin, Sem.run_bind, Sem.run_pure, Result.andThen_ok, List.map_toArray, List.map_cons, List.map_nil, hx, hy, hrun]
  exact hK _ _ h
theorem wpList_max2 {P : Program} {w : World} {ops : Array Oper} {rest : List Oper} {o : Oper} {a : Act} {Q : Exit → Act → World → Prop} (hgd : o.guard = none) (x y : Operand) (t : TypeId)
    (ho : o.op = .call { callee := .builtin .max, args := #[x, y], argTypes := #[t, t] }) (p q : Int) (hx : a.eval x = .int .i64 p) (hy : a.eval y = .int .i64 q) (r : Int) (hr : max p q = r)
    (h : wpList P ops Q rest (a.put o.dst (.int .i64 r)) w) : wpList P ops Q (o :: rest) a w := by
  refine wpList_plain hgd fun K hK => ?_
  have hrun := run_max_int2 (P := P) (w := w) #[t, t] o.type .i64 .i64 p q
  rw [show (if p < q then q else p) = r by rw [← hr]; split <;> omega] at hrun
  unfold Oper.wp
  simp only [execOp, ho, resolve, invoke, builtin, Sem.run_bind, Sem.run_pure, Result.andThen_ok, List.map_toArray, List.map_cons, List.map_nil, hx, hy, hrun]
  exact hK _ _ h
end Go.Proofs.YtjnpcmfpiejmjaaGreatDoor

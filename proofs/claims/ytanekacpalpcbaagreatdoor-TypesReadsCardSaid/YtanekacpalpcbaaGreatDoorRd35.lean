/- Part 35 of the proof. -/
import Derived.Test.YtanekacpalpcbaaGreatDoorRd7
import Derived.Test.YtanekacpalpcbaaGreatDoorRd33
import Derived.Test.YtanekacpalpcbaaGreatDoorRd34
namespace Go.Proofs.YtanekacpalpcbaaGreatDoor
set_option linter.unusedVariables false
set_option linter.unusedSimpArgs false
open Go.RowKit
set_option maxRecDepth 100000
set_option linter.unusedSimpArgs false
set_option linter.unusedVariables false
theorem anyT_impL {P : Program} {ops : Array Oper} {Q : Exit → Act → World → Prop} {md : Region.Mode} {S S' : World → Prop} {ds : List Nat} (h : ∀ w, S' w → S w) : ∀ (f : Nat) (l : Array Bool) (a : Act) (w : World), anyT P md ops Q S' ds f l a w → anyT P md ops Q S ds f l a w
  | 0, _, _, _, k => k
  | f + 1, _, _, _, k => ⟨k.1, fun i hi => wpOp_mono (fun a' w' h' => ⟨fun hd => h _ (h'.1 hd), anyT_impL h f _ a' w' h'.2⟩) (k.2 i hi)⟩
theorem anyT_kpL {P : Program} {ops : Array Oper} {Q : Exit → Act → World → Prop} {md : Region.Mode} {X Y : World → Prop} {ds : List Nat} {w0 : World} (kx : Kept X) {f : Nat} {l : Array Bool} {a : Act} {w : World}
    (h : anyT P md ops Q (fun w' => Kp w0 w' (fun w => X w ∧ Y w)) ds f l a w) : anyT P md ops Q (fun w' => Kp w0 w' X) ds f l a w :=
  anyT_impL (fun _ k => ⟨k.below, k.x.1, kx⟩) _ _ _ _ h
theorem kept_bytesL (v : Value) (xs : List Int) : Kept (fun w => BytesIn w v xs) := fun _ _ h hb => h.below hb
theorem refL_next {bs ys : List Int} {w w' : World} {e : Ending} (h : RefPost bs ys w e w') (hl : (bs ++ ys).length ≤ maxLen) : ∃ v', e = .returned v' ∧ BytesIn w' v' (bs ++ ys) ∧ Below w.heap.size w w' := by
  obtain ⟨v', h1, h2, h3⟩ := h
  exact ⟨v', h1, owns_in h2 hl, h3⟩
/-- a vote as an argument in memory -/
def RvS (q : Nat) (t : Vo) (w : World) : Prop := w.heap[q]? = some (.cells (voC t) 93 (0, 0)) ∧ BytesIn w t.sv t.sign
theorem RvS.s {q : Nat} {t : Vo} {w : World} (h : RvS q t w) : BytesIn w t.sv t.sign := And.right h
theorem RvS.below {q : Nat} {t : Vo} {w w' : World} (h : RvS q t w) (hb : Below w.heap.size w w') : RvS q t w' := ⟨(hb.block _ (bkT_lt h.1)).trans h.1, h.2.below hb⟩
set_option maxHeartbeats 8000000 in
theorem rrefvote_any (b : Value) (bs : List Int) (t : Vo) (w : World) (hb : BytesIn w b bs) (hs : BytesIn w t.sv t.sign) (hf : VoFl t) (hl : bs.length + (vo1 t).length + 400 ≤ 140737488355328) :
    Calls Tryz.prog 114 #[b, .agg (voC t)] w fun e w' => ∃ vb, e = .returned vb ∧ BytesIn w' vb (bs ++ vo1 t) ∧ Below w.heap.size w w' := by
  have HB := Lib.hid (below_alloc w (.cells (voC t) 93))
  have HQ := Lib.hid (show RvS w.heap.size t (w.alloc (.cells (voC t) 93)) from ⟨heap_alloc_new w (.cells (voC t) 93), hs.below HB.out⟩)
  have HX := Lib.hid (hb.below HB.out)
  have HV := Lib.hid hf
  have HL1 := Lib.hid (glenT (zig_lt hf.k.1 hf.k.2))
  have HL2 := Lib.hid (glenT (zig_lt hf.h.1 hf.h.2))
  have HL3 := Lib.hid (glenT (zig_lt hf.r.1 hf.r.2))
  have HL4 := Lib.hid (glenT (zig_lt hf.vl.1 hf.vl.2))
  have HL5 := Lib.hid (rowL32 t.blk)
  have HLV := Lib.hid (show (vo1 t).length = (varint (zig t.kind)).length + (varint (zig t.height)).length + (varint (zig t.round)).length + 32 + (varint (zig t.val)).length + ((varint t.sign.length).length + t.sign.length) from by simp only [vo1, voL, List.length_append, rowL32])
  have HR := Lib.hid hl
  obtain ⟨sa, sc, hsv, -⟩ := id hs
  have HSV := Lib.hid hsv
  obtain ⟨KI, hK⟩ : ∃ x, x = t.kind := ⟨_, rfl⟩
  obtain ⟨H, hH⟩ : ∃ x, x = t.height := ⟨_, rfl⟩
  obtain ⟨R, hR⟩ : ∃ x, x = t.round := ⟨_, rfl⟩
  obtain ⟨V, hV⟩ : ∃ x, x = t.val := ⟨_, rfl⟩
  have HKH := Lib.hid (show KI = t.kind ∧ H = t.height ∧ R = t.round ∧ V = t.val from ⟨hK, hH, hR, hV⟩)
  have HVK := Lib.hid (show (-9223372036854775808 ≤ KI ∧ KI ≤ 9223372036854775807) ∧ (-9223372036854775808 ≤ H ∧ H ≤ 9223372036854775807) ∧ (-9223372036854775808 ≤ R ∧ R ≤ 9223372036854775807) ∧ (-9223372036854775808 ≤ V ∧ V ≤ 9223372036854775807) from by rw [hK, hH, hR, hV]; exact ⟨hf.k, hf.h, hf.r, hf.vl⟩)
  rw [← hK] at HL1 HLV
  rw [← hH] at HL2 HLV
  rw [← hR] at HL3 HLV
  rw [← hV] at HL4 HLV
  clear hb hs hf hl hsv hK hH hR hV
  go_enter Tryz.func114, Tryz.ntmps114
  go_upto_region 1 with (fail)
  obtain ⟨q, hq⟩ : ∃ q, q = w.heap.size := ⟨_, rfl⟩
  rw [← hq] at HQ ⊢
  clear hq
  generalize w.alloc (.cells (voC t) 93) = w1 at *
  refine wp_region_T (RvS q t) [0, 1, 2, 3, 4, 5, 6, 7, 8, 9, 10, 11, 12, 13] (by kernel_rfl) ?_
  replace HQ := Lib.hid (HQ.out.below (Below.refl _ _).drew)
  replace HX := Lib.hid (HX.out.below (Below.refl _ _).drew)
  replace HB := Lib.hid (HB.out.drew)
  generalize w1.drew = w4 at *
  refine anyT_take [] (i := 0) (v := b) rfl (by kernel_rfl) (by kernel_rfl) (by kernel_rfl) (fun _ _ _ h => h) (by kernel_rfl) (Or.inl ⟨by rfl, fun w' _ => by go_simp⟩) HQ.out ?_
  try simp only [List.getElem_toArray, List.getElem_cons_succ, List.getElem_cons_zero, Act.put, List.setIfInBounds_toArray, List.set_cons_zero, List.set_cons_succ]
  refine anyT_take [] (i := 1) (v := .pointer (some ⟨q, 0, none⟩)) rfl (by kernel_rfl) (by kernel_rfl) (by kernel_rfl) (fun _ _ _ h => h) (by kernel_rfl) (Or.inl ⟨by rfl, fun w' _ => by go_simp⟩) HQ.out ?_
  try simp only [List.getElem_toArray, List.getElem_cons_succ, List.getElem_cons_zero, Act.put, List.setIfInBounds_toArray, List.set_cons_zero, List.set_cons_succ]
  refine anyT_take [] (i := 4) (v := .pointer (some ⟨q, 1, none⟩)) rfl (by kernel_rfl) (by kernel_rfl) (by kernel_rfl) (fun _ _ _ h => h) (by kernel_rfl) (Or.inl ⟨by rfl, fun w' _ => by go_simp⟩) HQ.out ?_
  try simp only [List.getElem_toArray, List.getElem_cons_succ, List.getElem_cons_zero, Act.put, List.setIfInBounds_toArray, List.set_cons_zero, List.set_cons_succ]
  refine anyT_take [] (i := 7) (v := .pointer (some ⟨q, 2, none⟩)) rfl (by kernel_rfl) (by kernel_rfl) (by kernel_rfl) (fun _ _ _ h => h) (by kernel_rfl) (Or.inl ⟨by rfl, fun w' _ => by go_simp⟩) HQ.out ?_
  try simp only [List.getElem_toArray, List.getElem_cons_succ, List.getElem_cons_zero, Act.put, List.setIfInBounds_toArray, List.set_cons_zero, List.set_cons_succ]
  refine anyT_take [] (i := 10) (v := .pointer (some ⟨q, 3, none⟩)) rfl (by kernel_rfl) (by kernel_rfl) (by kernel_rfl) (fun _ _ _ h => h) (by kernel_rfl) (Or.inl ⟨by rfl, fun w' _ => by go_simp⟩) HQ.out ?_
  try simp only [List.getElem_toArray, List.getElem_cons_succ, List.getElem_cons_zero, Act.put, List.setIfInBounds_toArray, List.set_cons_zero, List.set_cons_succ]
  refine anyT_take [] (i := 2) (v := .int .i64 KI) rfl (by kernel_rfl) (by kernel_rfl) (by kernel_rfl) (fun _ _ _ h => h) (by kernel_rfl) (Or.inl ⟨by rfl, fun w' hS => by have c := (vo_cells hS.1).1; rw [← HKH.out.1] at c; go_simp⟩) HQ.out ?_
  try simp only [List.getElem_toArray, List.getElem_cons_succ, List.getElem_cons_zero, Act.put, List.setIfInBounds_toArray, List.set_cons_zero, List.set_cons_succ]
  refine anyT_take [] (i := 5) (v := .int .i64 H) rfl (by kernel_rfl) (by kernel_rfl) (by kernel_rfl) (fun _ _ _ h => h) (by kernel_rfl) (Or.inl ⟨by rfl, fun w' hS => by have c := (vo_cells hS.1).2.1; rw [← HKH.out.2.1] at c; go_simp⟩) HQ.out ?_
  try simp only [List.getElem_toArray, List.getElem_cons_succ, List.getElem_cons_zero, Act.put, List.setIfInBounds_toArray, List.set_cons_zero, List.set_cons_succ]
  refine anyT_take [] (i := 8) (v := .int .i64 R) rfl (by kernel_rfl) (by kernel_rfl) (by kernel_rfl) (fun _ _ _ h => h) (by kernel_rfl) (Or.inl ⟨by rfl, fun w' hS => by have c := (vo_cells hS.1).2.2.1; rw [← HKH.out.2.2.1] at c; go_simp⟩) HQ.out ?_
  try simp only [List.getElem_toArray, List.getElem_cons_succ, List.getElem_cons_zero, Act.put, List.setIfInBounds_toArray, List.set_cons_zero, List.set_cons_succ]
  refine anyT_take [] (i := 11) (v := .agg (rowOf .u8 32 t.blk)) rfl (by kernel_rfl) (by kernel_rfl) (by kernel_rfl) (fun _ _ _ h => h) (by kernel_rfl) (rowT_yields (by rfl) 65 (.tmp 15) rfl q 3 rfl _ _ (fun _ h => (vo_cells h.1).2.2.2.1) Tryz.underlying65 rfl (by rw [rowOf_size]; kernel_rfl)) HQ.out ?_
  try simp only [List.getElem_toArray, List.getElem_cons_succ, List.getElem_cons_zero, Act.put, List.setIfInBounds_toArray, List.set_cons_zero, List.set_cons_succ]
  refine anyT_one (i := 3) (by kernel_rfl) rfl (fun K hK => ?_)
  rw [if_pos (by rfl)]
  try simp only [List.getElem_toArray, List.getElem_cons_succ, List.getElem_cons_zero]
  (go_simp; (with_reducible refine (dInt_any b _ KI w4 HX.out HVK.out.1.1 HVK.out.1.2 (by have h0 := HR.out; have h1 := HLV.out; have a1 := HL1.out; have a2 := HL2.out; have a3 := HL3.out; have a4 := HL4.out; have a5 := HL5.out; (try simp only [List.length_append]); omega)).mono ?_); rintro e w5 hp; obtain ⟨vw5, rfl, hx, hb⟩ := refL_next hp (by have h0 := HR.out; have h1 := HLV.out; have a1 := HL1.out; have a2 := HL2.out; have a3 := HL3.out; have a4 := HL4.out; have a5 := HL5.out; (try simp only [List.length_append]); unfold maxLen; omega); replace HX := Lib.hid hx; replace HQ := Lib.hid (HQ.out.below hb); replace HB := Lib.hid (HB.out.trans (hb.mono HB.out.size)); clear hp hx hb)
  refine hK _ _ (fun _ => HQ.out) ?_
  clear hK K
  try simp only [List.getElem_toArray, List.getElem_cons_succ, List.getElem_cons_zero, Act.put, List.setIfInBounds_toArray, List.set_cons_zero, List.set_cons_succ]
  refine anyT_one (i := 6) (by kernel_rfl) rfl (fun K hK => ?_)
  rw [if_pos (by rfl)]
  try simp only [List.getElem_toArray, List.getElem_cons_succ, List.getElem_cons_zero]
  (go_simp; (with_reducible refine (dInt_any vw5 _ H w5 HX.out HVK.out.2.1.1 HVK.out.2.1.2 (by have h0 := HR.out; have h1 := HLV.out; have a1 := HL1.out; have a2 := HL2.out; have a3 := HL3.out; have a4 := HL4.out; have a5 := HL5.out; (try simp only [List.length_append]); omega)).mono ?_); rintro e w6 hp; obtain ⟨vw6, rfl, hx, hb⟩ := refL_next hp (by have h0 := HR.out; have h1 := HLV.out; have a1 := HL1.out; have a2 := HL2.out; have a3 := HL3.out; have a4 := HL4.out; have a5 := HL5.out; (try simp only [List.length_append]); unfold maxLen; omega); replace HX := Lib.hid hx; replace HQ := Lib.hid (HQ.out.below hb); replace HB := Lib.hid (HB.out.trans (hb.mono HB.out.size)); clear hp hx hb)
  refine hK _ _ (fun _ => HQ.out) ?_
  clear hK K
  try simp only [List.getElem_toArray, List.getElem_cons_succ, List.getElem_cons_zero, Act.put, List.setIfInBounds_toArray, List.set_cons_zero, List.set_cons_succ]
  refine anyT_one (i := 9) (by kernel_rfl) rfl (fun K hK => ?_)
  rw [if_pos (by rfl)]
  try simp only [List.getElem_toArray, List.getElem_cons_succ, List.getElem_cons_zero]
  (go_simp; (with_reducible refine (dInt_any vw6 _ R w6 HX.out HVK.out.2.2.1.1 HVK.out.2.2.1.2 (by have h0 := HR.out; have h1 := HLV.out; have a1 := HL1.out; have a2 := HL2.out; have a3 := HL3.out; have a4 := HL4.out; have a5 := HL5.out; (try simp only [List.length_append]); omega)).mono ?_); rintro e w7 hp; obtain ⟨vw7, rfl, hx, hb⟩ := refL_next hp (by have h0 := HR.out; have h1 := HLV.out; have a1 := HL1.out; have a2 := HL2.out; have a3 := HL3.out; have a4 := HL4.out; have a5 := HL5.out; (try simp only [List.length_append]); unfold maxLen; omega); replace HX := Lib.hid hx; replace HQ := Lib.hid (HQ.out.below hb); replace HB := Lib.hid (HB.out.trans (hb.mono HB.out.size)); clear hp hx hb)
  refine hK _ _ (fun _ => HQ.out) ?_
  clear hK K
  try simp only [List.getElem_toArray, List.getElem_cons_succ, List.getElem_cons_zero, Act.put, List.setIfInBounds_toArray, List.set_cons_zero, List.set_cons_succ]
  refine anyT_one (i := 12) (by kernel_rfl) rfl (fun K hK => ?_)
  rw [if_pos (by rfl)]
  try simp only [List.getElem_toArray, List.getElem_cons_succ, List.getElem_cons_zero]
  (go_simp; (with_reducible refine (dHash_any vw7 _ t.blk w7 HX.out (by have h0 := HR.out; have h1 := HLV.out; have a1 := HL1.out; have a2 := HL2.out; have a3 := HL3.out; have a4 := HL4.out; have a5 := HL5.out; (try simp only [List.length_append]); omega)).mono ?_); rintro e w8 hp; obtain ⟨vw8, rfl, hx, hb⟩ := refL_next hp (by have h0 := HR.out; have h1 := HLV.out; have a1 := HL1.out; have a2 := HL2.out; have a3 := HL3.out; have a4 := HL4.out; have a5 := HL5.out; (try simp only [List.length_append]); unfold maxLen; omega); replace HX := Lib.hid hx; replace HQ := Lib.hid (HQ.out.below hb); replace HB := Lib.hid (HB.out.trans (hb.mono HB.out.size)); clear hp hx hb)
  refine hK _ _ (fun _ => HQ.out) ?_
  clear hK K
  try simp only [List.getElem_toArray, List.getElem_cons_succ, List.getElem_cons_zero, Act.put, List.setIfInBounds_toArray, List.set_cons_zero, List.set_cons_succ]
  refine anyT_take [] (i := 13) (v := vw8) rfl (by kernel_rfl) (by kernel_rfl) (by kernel_rfl) (fun _ _ _ h => h) (by kernel_rfl) (Or.inl ⟨by rfl, fun w' _ => by go_simp⟩) HQ.out ?_
  try simp only [List.getElem_toArray, List.getElem_cons_succ, List.getElem_cons_zero, Act.put, List.setIfInBounds_toArray, List.set_cons_zero, List.set_cons_succ]
  refine anyT_done (by kernel_rfl) ?_ _
  go_upto_region 2 with (fail)
  refine wp_region_T (RvS q t) [0, 1, 2, 3, 4, 5, 6, 7] (by kernel_rfl) ?_
  replace HQ := Lib.hid (HQ.out.below (Below.refl _ _).drew)
  replace HX := Lib.hid (HX.out.below (Below.refl _ _).drew)
  replace HB := Lib.hid (HB.out.drew)
  generalize w8.drew = w9 at *
  refine anyT_take [] (i := 0) (v := vw8) rfl (by kernel_rfl) (by kernel_rfl) (by kernel_rfl) (fun _ _ _ h => h) (by kernel_rfl) (Or.inl ⟨by rfl, fun w' _ => by go_simp⟩) HQ.out ?_
  try simp only [List.getElem_toArray, List.getElem_cons_succ, List.getElem_cons_zero, Act.put, List.setIfInBounds_toArray, List.set_cons_zero, List.set_cons_succ]
  refine anyT_take [] (i := 1) (v := .pointer (some ⟨q, 35, none⟩)) rfl (by kernel_rfl) (by kernel_rfl) (by kernel_rfl) (fun _ _ _ h => h) (by kernel_rfl) (Or.inl ⟨by rfl, fun w' _ => by go_simp⟩) HQ.out ?_
  try simp only [List.getElem_toArray, List.getElem_cons_succ, List.getElem_cons_zero, Act.put, List.setIfInBounds_toArray, List.set_cons_zero, List.set_cons_succ]
  refine anyT_take [] (i := 4) (v := .pointer (some ⟨q, 36, none⟩)) rfl (by kernel_rfl) (by kernel_rfl) (by kernel_rfl) (fun _ _ _ h => h) (by kernel_rfl) (Or.inl ⟨by rfl, fun w' _ => by go_simp⟩) HQ.out ?_
  try simp only [List.getElem_toArray, List.getElem_cons_succ, List.getElem_cons_zero, Act.put, List.setIfInBounds_toArray, List.set_cons_zero, List.set_cons_succ]
  refine anyT_take [] (i := 2) (v := .int .i64 V) rfl (by kernel_rfl) (by kernel_rfl) (by kernel_rfl) (fun _ _ _ h => h) (by kernel_rfl) (Or.inl ⟨by rfl, fun w' hS => by have c := (vo_cells hS.1).2.2.2.2.1; rw [← HKH.out.2.2.2] at c; go_simp⟩) HQ.out ?_
  try simp only [List.getElem_toArray, List.getElem_cons_succ, List.getElem_cons_zero, Act.put, List.setIfInBounds_toArray, List.set_cons_zero, List.set_cons_succ]
  refine anyT_take [] (i := 5) (v := t.sv) rfl (by kernel_rfl) (by kernel_rfl) (by kernel_rfl) (fun _ _ _ h => h) (by kernel_rfl) (Or.inl ⟨by rfl, fun w' hS => by have c := (vo_cells hS.1).2.2.2.2.2; go_simp⟩) HQ.out ?_
  try simp only [List.getElem_toArray, List.getElem_cons_succ, List.getElem_cons_zero, Act.put, List.setIfInBounds_toArray, List.set_cons_zero, List.set_cons_succ]
  refine anyT_one (i := 3) (by kernel_rfl) rfl (fun K hK => ?_)
  rw [if_pos (by rfl)]
  try simp only [List.getElem_toArray, List.getElem_cons_succ, List.getElem_cons_zero]
  (go_simp; (with_reducible refine (dInt_any vw8 _ V w9 HX.out HVK.out.2.2.2.1 HVK.out.2.2.2.2 (by have h0 := HR.out; have h1 := HLV.out; have a1 := HL1.out; have a2 := HL2.out; have a3 := HL3.out; have a4 := HL4.out; have a5 := HL5.out; (try simp only [List.length_append]); omega)).mono ?_); rintro e w10 hp; obtain ⟨vw10, rfl, hx, hb⟩ := refL_next hp (by have h0 := HR.out; have h1 := HLV.out; have a1 := HL1.out; have a2 := HL2.out; have a3 := HL3.out; have a4 := HL4.out; have a5 := HL5.out; (try simp only [List.length_append]); unfold maxLen; omega); replace HX := Lib.hid hx; replace HQ := Lib.hid (HQ.out.below hb); replace HB := Lib.hid (HB.out.trans (hb.mono HB.out.size)); clear hp hx hb)
  refine hK _ _ (fun _ => HQ.out) ?_
  clear hK K
  try simp only [List.getElem_toArray, List.getElem_cons_succ, List.getElem_cons_zero, Act.put, List.setIfInBounds_toArray, List.set_cons_zero, List.set_cons_succ]
  refine anyT_one (i := 6) (by kernel_rfl) rfl (fun K hK => ?_)
  rw [if_pos (by rfl)]
  try simp only [List.getElem_toArray, List.getElem_cons_succ, List.getElem_cons_zero]
  (go_simp; (with_reducible refine (dBytes_any vw10 t.sv _ t.sign w10 HX.out (RvS.s HQ.out) (by have h0 := HR.out; have h1 := HLV.out; have a1 := HL1.out; have a2 := HL2.out; have a3 := HL3.out; have a4 := HL4.out; have a5 := HL5.out; (try simp only [List.length_append]); omega)).mono ?_); rintro e w11 hp; obtain ⟨vw11, rfl, hx, hb⟩ := refL_next hp (by have h0 := HR.out; have h1 := HLV.out; have a1 := HL1.out; have a2 := HL2.out; have a3 := HL3.out; have a4 := HL4.out; have a5 := HL5.out; (try simp only [List.length_append]); unfold maxLen; omega); replace HX := Lib.hid hx; replace HQ := Lib.hid (HQ.out.below hb); replace HB := Lib.hid (HB.out.trans (hb.mono HB.out.size)); clear hp hx hb)
  refine hK _ _ (fun _ => HQ.out) ?_
  clear hK K
  try simp only [List.getElem_toArray, List.getElem_cons_succ, List.getElem_cons_zero, Act.put, List.setIfInBounds_toArray, List.set_cons_zero, List.set_cons_succ]
  refine anyT_take [] (i := 7) (v := vw11) rfl (by kernel_rfl) (by kernel_rfl) (by kernel_rfl) (fun _ _ _ h => h) (by kernel_rfl) (Or.inl ⟨by rfl, fun w' _ => by go_simp⟩) HQ.out ?_
  try simp only [List.getElem_toArray, List.getElem_cons_succ, List.getElem_cons_zero, Act.put, List.setIfInBounds_toArray, List.set_cons_zero, List.set_cons_succ]
  refine anyT_done (by kernel_rfl) ?_ _
  go_wp2_with (fail)
  go_ret
  refine ⟨vw11, rfl, ?_, HB.out⟩
  have h := HX.out
  rw [HKH.out.1, HKH.out.2.1, HKH.out.2.2.1, HKH.out.2.2.2] at h
  simpa only [vo1, voL, List.append_assoc] using h
/-- two votes' places -/
structure VxM (ab ao ab2 ao2 k : Nat) (x y : Vo) (w : World) : Prop where
  l1 : ab < w.heap.size
  r1 : w.rangeAt ab (ao + k * 37) (voC x).toList
  l2 : ab2 < w.heap.size
  r2 : w.rangeAt ab2 (ao2 + k * 37) (voC y).toList
  s1 : BytesIn w x.sv x.sign
  s2 : BytesIn w y.sv y.sign
theorem kept_vxm (ab ao ab2 ao2 k : Nat) (x y : Vo) : Kept (VxM ab ao ab2 ao2 k x y) := fun _ _ m h =>
  ⟨Nat.lt_of_lt_of_le m.l1 h.size, rangeT_below m.r1 h m.l1, Nat.lt_of_lt_of_le m.l2 h.size, rangeT_below m.r2 h m.l2, m.s1.below h, m.s2.below h⟩
/-- the same votes, but for where their signatures lie -/
def SameV (la lb : List Vo) : Prop := la.length = lb.length ∧ ∀ (i : Nat) (x y : Vo), la[i]? = some x → lb[i]? = some y → vo1 x = vo1 y
def VkL (va vb : Value) (la lb : List Vo) (w : World) : Prop := VoIn w va la ∧ VoIn w vb lb ∧ (∀ t ∈ la, BytesIn w t.sv t.sign) ∧ (∀ t ∈ lb, BytesIn w t.sv t.sign)
theorem kept_vkl (va vb : Value) (la lb : List Vo) : Kept (VkL va vb la lb) := fun _ _ m h => ⟨m.1.below h, m.2.1.below h, fun t ht => (m.2.2.1 t ht).below h, fun t ht => (m.2.2.2 t ht).below h⟩
set_option maxHeartbeats 16000000 in
theorem lvotes11_any (va vb : Value) (la lb : List Vo) (w : World) (ha : VoIn w va la) (hb : VoIn w vb lb) (hsa : ∀ t ∈ la, BytesIn w t.sv t.sign) (hsb : ∀ t ∈ lb, BytesIn w t.sv t.sign) (hfa : ∀ t ∈ la, VoFl t ∧ (vo1 t).length + 400 ≤ 140737488355328) (hfb : ∀ t ∈ lb, VoFl t ∧ (vo1 t).length + 400 ≤ 140737488355328) (hs : SameV la lb) :
    Calls Tryz.prog 59 #[va, vb] w fun e w' => e = .returned (.bool true) ∧ Below w.heap.size w w' := by
  have M0 := Lib.hid (show Kp w w (VkL va vb la lb) from ⟨Below.refl _ _, ⟨ha, hb, hsa, hsb⟩, kept_vkl _ _ _ _⟩)
  obtain ⟨aa, ac, rfl, -, ham⟩ := ha.len
  obtain ⟨ba, bc, rfl, -, -⟩ := hb.len
  have HFA := Lib.hid hfa
  have HFB := Lib.hid hfb
  have HS := Lib.hid hs
  rw [← hs.1] at M0 ⊢
  obtain ⟨n, hn⟩ : ∃ n, n = la.length := ⟨_, rfl⟩
  have HN := Lib.hid hn
  rw [← hn] at M0 ham ⊢
  have hnI : (n : Int) ≤ 9223372036854775807 := by unfold maxLen at ham; omega
  clear ha hb hsa hsb hfa hfb hs hn ham
  go_enter Tryz.func59, Tryz.ntmps59
  go_wp2_with (fail)
  go_loopw [5] (fun x wr => ∃ k : Nat, k ≤ n ∧ x = .int .i64 (k : Int) ∧ Hid (Kp w wr (VkL (.slice aa n ac) (.slice ba n bc) la lb))) (fun x _ => n - (intOf x).toNat)
  case atStart => exact ⟨0, Nat.zero_le _, rfl, M0⟩
  case round =>
    clear M0
    obtain ⟨k, hkn, rfl, M⟩ := hrel
    by_cases hlt : k < n
    · have hltI : (k : Int) < (n : Int) := by omega
      obtain ⟨x, hx⟩ : ∃ x, la[k]? = some x := ⟨la[k]'(by have := HN.out; omega), List.getElem?_eq_getElem _⟩
      obtain ⟨y, hy⟩ : ∃ y, lb[k]? = some y := ⟨lb[k]'(by have := HN.out; have := HS.out.1; omega), List.getElem?_eq_getElem _⟩
      obtain ⟨ab, ao, rfl, hl1, hr1⟩ := M.out.x.1.at hx
      obtain ⟨ab2, ao2, rfl, hl2, hr2⟩ := M.out.x.2.1.at hy
      have HEV := Lib.hid (fun w h => evote_any x w h (HFA.out x (List.mem_of_getElem? hx)).1 (HFA.out x (List.mem_of_getElem? hx)).2)
      have HRV := Lib.hid (fun w h => rrefvote_any (.slice none 0 0) [] y w (nil_in w) h (HFB.out y (List.mem_of_getElem? hy)).1 (by have := (HFB.out y (List.mem_of_getElem? hy)).2; simpa using this))
      have hxy := HS.out.2 k x y hx hy
      rw [List.nil_append, ← hxy] at HRV
      obtain ⟨L0, hL0⟩ : ∃ z, z = vo1 x := ⟨_, rfl⟩
      rw [← hL0] at HEV HRV
      obtain ⟨S0, hS0⟩ : ∃ s, s = strOfNums L0 := ⟨_, rfl⟩
      have HS0 := Lib.hid hS0
      have hk0 : (S0.toList == S0.toList) = true := by simp
      have MX := Lib.hid (show Kp w wr (VxM ab ao ab2 ao2 k x y) from ⟨M.out.below, ⟨hl1, hr1, hl2, hr2, M.out.x.2.2.1 x (List.mem_of_getElem? hx), M.out.x.2.2.2 y (List.mem_of_getElem? hy)⟩, kept_vxm _ _ _ _ _ _ _⟩)
      have MY := Lib.hid (fun w' (h : Below wr.heap.size wr w') => M.out.call h)
      clear hx hy hl1 hr1 hl2 hr2 hxy hL0 hS0 M
      obtain ⟨X0, hX0⟩ : ∃ X, X = VxM ab ao ab2 ao2 k x y := ⟨_, rfl⟩
      have HX0 := Lib.hid (show ∀ w, X0 w → VxM ab ao ab2 ao2 k x y w from fun w h => by rw [hX0] at h; exact h)
      have KX := Lib.hid (show Kept X0 from by rw [hX0]; exact kept_vxm _ _ _ _ _ _ _)
      have M := Lib.hid (show Kp wr wr X0 from ⟨Below.refl _ _, by rw [hX0]; exact MX.out.x, KX.out⟩)
      clear MX hX0
      go_upto_region 6 with (fail)
      refine wp_region_T (fun w' => Kp wr w' X0) [0, 1, 2, 3, 4, 5, 6, 7, 8, 9, 10, 11, 12] (by kernel_rfl) ?_
      replace M := Lib.hid (M.out.call (Below.refl _ _).drew)
      generalize wr.drew = w10 at *
      refine anyT_take [] (i := 0) (v := .slice (some ⟨ab, ao, none⟩) n ac) rfl (by kernel_rfl) (by kernel_rfl) (by kernel_rfl) (fun _ _ _ h => h) (by kernel_rfl) (Or.inl ⟨by rfl, fun w' _ => by go_simp⟩) M.out ?_
      try simp only [List.getElem_toArray, List.getElem_cons_succ, List.getElem_cons_zero, Act.put, List.setIfInBounds_toArray, List.set_cons_zero, List.set_cons_succ]
      refine anyT_take [] (i := 1) (v := .int .i64 (k : Int)) rfl (by kernel_rfl) (by kernel_rfl) (by kernel_rfl) (fun _ _ _ h => h) (by kernel_rfl) (Or.inl ⟨by rfl, fun w' _ => by go_simp⟩) M.out ?_
      try simp only [List.getElem_toArray, List.getElem_cons_succ, List.getElem_cons_zero, Act.put, List.setIfInBounds_toArray, List.set_cons_zero, List.set_cons_succ]
      refine anyT_take [] (i := 2) (v := .pointer (some ⟨ab, ao + k * 37, none⟩)) rfl (by kernel_rfl) (by kernel_rfl) (by kernel_rfl) (fun _ _ _ h => h) (by kernel_rfl) (Or.inl ⟨by rfl, fun w' _ => by go_simp⟩) M.out ?_
      try simp only [List.getElem_toArray, List.getElem_cons_succ, List.getElem_cons_zero, Act.put, List.setIfInBounds_toArray, List.set_cons_zero, List.set_cons_succ]
      refine anyT_take [] (i := 6) (v := .slice (some ⟨ab2, ao2, none⟩) n bc) rfl (by kernel_rfl) (by kernel_rfl) (by kernel_rfl) (fun _ _ _ h => h) (by kernel_rfl) (Or.inl ⟨by rfl, fun w' _ => by go_simp⟩) M.out ?_
      try simp only [List.getElem_toArray, List.getElem_cons_succ, List.getElem_cons_zero, Act.put, List.setIfInBounds_toArray, List.set_cons_zero, List.set_cons_succ]
      refine anyT_take [] (i := 7) (v := .int .i64 (k : Int)) rfl (by kernel_rfl) (by kernel_rfl) (by kernel_rfl) (fun _ _ _ h => h) (by kernel_rfl) (Or.inl ⟨by rfl, fun w' _ => by go_simp⟩) M.out ?_
      try simp only [List.getElem_toArray, List.getElem_cons_succ, List.getElem_cons_zero, Act.put, List.setIfInBounds_toArray, List.set_cons_zero, List.set_cons_succ]
      refine anyT_take [] (i := 8) (v := .pointer (some ⟨ab2, ao2 + k * 37, none⟩)) rfl (by kernel_rfl) (by kernel_rfl) (by kernel_rfl) (fun _ _ _ h => h) (by kernel_rfl) (Or.inl ⟨by rfl, fun w' _ => by go_simp⟩) M.out ?_
      try simp only [List.getElem_toArray, List.getElem_cons_succ, List.getElem_cons_zero, Act.put, List.setIfInBounds_toArray, List.set_cons_zero, List.set_cons_succ]
      refine anyT_take [] (i := 3) (v := .agg (voC x)) rfl (by kernel_rfl) (by kernel_rfl) (by kernel_rfl) (fun _ _ _ h => h) (by kernel_rfl) (rowT_yields (by rfl) 93 (.tmp 19) rfl ab (ao + k * 37) rfl _ _ (fun _ h => (HX0.out _ h.x).r1) Tryz.underlying93 rfl (by rw [voC_size]; kernel_rfl)) M.out ?_
      try simp only [List.getElem_toArray, List.getElem_cons_succ, List.getElem_cons_zero, Act.put, List.setIfInBounds_toArray, List.set_cons_zero, List.set_cons_succ]
      refine anyT_take [] (i := 9) (v := .agg (voC y)) rfl (by kernel_rfl) (by kernel_rfl) (by kernel_rfl) (fun _ _ _ h => h) (by kernel_rfl) (rowT_yields (by rfl) 93 (.tmp 25) rfl ab2 (ao2 + k * 37) rfl _ _ (fun _ h => (HX0.out _ h.x).r2) Tryz.underlying93 rfl (by rw [voC_size]; kernel_rfl)) M.out ?_
      try simp only [List.getElem_toArray, List.getElem_cons_succ, List.getElem_cons_zero, Act.put, List.setIfInBounds_toArray, List.set_cons_zero, List.set_cons_succ]
      refine anyT_one (i := 4) (by kernel_rfl) rfl (fun K hK => ?_)
      rw [if_pos (by rfl)]
      try simp only [List.getElem_toArray, List.getElem_cons_succ, List.getElem_cons_zero]
      (go_simp; (with_reducible refine (HEV.out _ (HX0.out _ M.out.x).s1).mono ?_); rintro e w11 ⟨v21, rfl, hby, hb⟩; obtain ⟨a21, c21, rfl, -⟩ := id hby; have HB21 := Lib.hid (hby.below (Below.refl _ _)); clear hby; replace M := Lib.hid (M.out.call hb); clear hb)
      refine hK _ _ (fun _ => M.out) ?_
      clear hK K
      try simp only [List.getElem_toArray, List.getElem_cons_succ, List.getElem_cons_zero, Act.put, List.setIfInBounds_toArray, List.set_cons_zero, List.set_cons_succ]
      replace M := Lib.hid (M.out.add HB21.out (kept_bytesL _ _))
      refine anyT_kpL (Y := fun w => BytesIn w (.slice a21 L0.length c21) L0) KX.out ?_
      replace KX := Lib.hid (KX.out.and (kept_bytesL (.slice a21 L0.length c21) L0))
      clear HB21
      refine anyT_take [] (i := 5) (v := .string S0) rfl (by kernel_rfl) (by kernel_rfl) (by kernel_rfl) (fun _ _ _ h => h) (by kernel_rfl) (Or.inl ⟨by rfl, fun w' hS => by have c := conv_bytes w' _ _ hS.x.2; rw [← HS0.out] at c; go_simp⟩) M.out ?_
      try simp only [List.getElem_toArray, List.getElem_cons_succ, List.getElem_cons_zero, Act.put, List.setIfInBounds_toArray, List.set_cons_zero, List.set_cons_succ]
      refine anyT_one (i := 10) (by kernel_rfl) rfl (fun K hK => ?_)
      rw [if_pos (by rfl)]
      try simp only [List.getElem_toArray, List.getElem_cons_succ, List.getElem_cons_zero]
      (go_simp; (with_reducible refine (HRV.out _ (HX0.out _ M.out.x.1).s2).mono ?_); rintro e w12 ⟨v27, rfl, hby, hb⟩; obtain ⟨a27, c27, rfl, -⟩ := id hby; have HB27 := Lib.hid (hby.below (Below.refl _ _)); clear hby; replace M := Lib.hid (M.out.call hb); clear hb)
      refine hK _ _ (fun _ => M.out) ?_
      clear hK K
      try simp only [List.getElem_toArray, List.getElem_cons_succ, List.getElem_cons_zero, Act.put, List.setIfInBounds_toArray, List.set_cons_zero, List.set_cons_succ]
      replace M := Lib.hid (M.out.add HB27.out (kept_bytesL _ _))
      refine anyT_kpL (Y := fun w => BytesIn w (.slice a27 L0.length c27) L0) KX.out ?_
      replace KX := Lib.hid (KX.out.and (kept_bytesL (.slice a27 L0.length c27) L0))
      clear HB27
      refine anyT_take [] (i := 11) (v := .string S0) rfl (by kernel_rfl) (by kernel_rfl) (by kernel_rfl) (fun _ _ _ h => h) (by kernel_rfl) (Or.inl ⟨by rfl, fun w' hS => by have c := conv_bytes w' _ _ hS.x.2; rw [← HS0.out] at c; go_simp⟩) M.out ?_
      try simp only [List.getElem_toArray, List.getElem_cons_succ, List.getElem_cons_zero, Act.put, List.setIfInBounds_toArray, List.set_cons_zero, List.set_cons_succ]
      refine anyT_take [] (i := 12) (v := .bool false) rfl (by kernel_rfl) (by kernel_rfl) (by kernel_rfl) (fun _ _ _ h => h) (by kernel_rfl) (Or.inl ⟨by rfl, fun w' _ => by go_simp⟩) M.out ?_
      try simp only [List.getElem_toArray, List.getElem_cons_succ, List.getElem_cons_zero, Act.put, List.setIfInBounds_toArray, List.set_cons_zero, List.set_cons_succ]
      refine anyT_done (by kernel_rfl) ?_ _
      have MZ := Lib.hid (MY.out _ M.out.below)
      go_wp2_with (fail)
      go_roundw
      case rel => exact ⟨k + 1, by omega, by go_num, MZ⟩
      case measure => simp [intOf]; omega
    · obtain rfl : k = n := by omega
      go_wp2_with (fail)
      go_ret
      exact ⟨rfl, M.out.below⟩
/-- the same bytes, but for where they lie -/
def SameT (la lb : List Tb) : Prop := la.length = lb.length ∧ ∀ (i : Nat) (x y : Tb), la[i]? = some x → lb[i]? = some y → x.bs = y.bs
def TkL (va vb : Value) (la lb : List Tb) (w : World) : Prop := TbIn w va la ∧ TbIn w vb lb ∧ (∀ t ∈ la, BytesIn w t.bv t.bs) ∧ (∀ t ∈ lb, BytesIn w t.bv t.bs)
theorem kept_tkl (va vb : Value) (la lb : List Tb) : Kept (TkL va vb la lb) := fun _ _ m h => ⟨m.1.below h, m.2.1.below h, fun t ht => (m.2.2.1 t ht).below h, fun t ht => (m.2.2.2 t ht).below h⟩
set_option maxHeartbeats 8000000 in
theorem llists11_any (va vb : Value) (la lb : List Tb) (w : World) (ha : TbIn w va la) (hb : TbIn w vb lb) (hsa : ∀ t ∈ la, BytesIn w t.bv t.bs) (hsb : ∀ t ∈ lb, BytesIn w t.bv t.bs) (hs : SameT la lb) :
    Calls Tryz.prog 61 #[va, vb] w fun e w' => e = .returned (.bool true) ∧ Below w.heap.size w w' := by
  have M0 := Lib.hid (show Kp w w (TkL va vb la lb) from ⟨Below.refl _ _, ⟨ha, hb, hsa, hsb⟩, kept_tkl _ _ _ _⟩)
  obtain ⟨aa, ac, rfl, -, ham⟩ := ha.len
  obtain ⟨ba, bc, rfl, -, -⟩ := hb.len
  have HS := Lib.hid hs
  rw [← hs.1] at M0 ⊢
  obtain ⟨n, hn⟩ : ∃ n, n = la.length := ⟨_, rfl⟩
  have HN := Lib.hid hn
  rw [← hn] at M0 ham ⊢
  have hnI : (n : Int) ≤ 9223372036854775807 := by unfold maxLen at ham; omega
  clear ha hb hsa hsb hs hn ham
  go_enter Tryz.func61, Tryz.ntmps61
  go_wp2_with (fail)
  go_loopw [5] (fun x wr => ∃ k : Nat, k ≤ n ∧ x = .int .i64 (k : Int) ∧ Hid (Kp w wr (TkL (.slice aa n ac) (.slice ba n bc) la lb))) (fun x _ => n - (intOf x).toNat)
  case atStart => exact ⟨0, Nat.zero_le _, rfl, M0⟩
  case round =>
    clear M0
    obtain ⟨k, hkn, rfl, M⟩ := hrel
    by_cases hlt : k < n
    · have hltI : (k : Int) < (n : Int) := by omega
      obtain ⟨x, hx⟩ : ∃ x, la[k]? = some x := ⟨la[k]'(by have := HN.out; omega), List.getElem?_eq_getElem _⟩
      obtain ⟨y, hy⟩ : ∃ y, lb[k]? = some y := ⟨lb[k]'(by have := HN.out; have := HS.out.1; omega), List.getElem?_eq_getElem _⟩
      obtain ⟨ab, ao, rfl, hl1, hr1⟩ := M.out.x.1.at hx
      obtain ⟨ab2, ao2, rfl, hl2, hr2⟩ := M.out.x.2.1.at hy
      have h1 : wr.cell? ⟨ab, ao + k, none⟩ = some x.bv := by have := hr1 0 _ rfl; rw [Nat.mul_one] at this; exact this
      have h2 : wr.cell? ⟨ab2, ao2 + k, none⟩ = some y.bv := by have := hr2 0 _ rfl; rw [Nat.mul_one] at this; exact this
      have hxy := HS.out.2 k x y hx hy
      have hbx := M.out.x.2.2.1 x (List.mem_of_getElem? hx)
      have hby := M.out.x.2.2.2 y (List.mem_of_getElem? hy)
      rw [← hxy] at hby
      obtain ⟨xv, hxv⟩ : ∃ z, z = x.bv := ⟨_, rfl⟩
      obtain ⟨yv, hyv⟩ : ∃ z, z = y.bv := ⟨_, rfl⟩
      rw [← hxv] at h1 hbx
      rw [← hyv] at h2 hby
      have hc1 := conv_bytes wr.drew xv _ (hbx.below (Below.refl _ _).drew)
      have hc2 := conv_bytes wr.drew yv _ (hby.below (Below.refl _ _).drew)
      obtain ⟨S0, hS0⟩ : ∃ s, s = strOfNums x.bs := ⟨_, rfl⟩
      rw [← hS0] at hc1 hc2
      have hk0 : (S0.toList == S0.toList) = true := by simp
      have h1' : wr.drew.cell? ⟨ab, ao + k, none⟩ = some xv := h1
      have h2' : wr.drew.cell? ⟨ab2, ao2 + k, none⟩ = some yv := h2
      have HB2 := Lib.hid (show Below wr.heap.size wr wr.drew from (Below.refl _ _).drew)
      clear hx hy hl1 hr1 hl2 hr2 hxy hS0 hbx hby hxv hyv
      go_upto_region 6 with (fail)
      refine wp_region_T (fun w' => w' = wr.drew) [0, 1, 2, 3, 4, 5, 6, 7, 8, 9, 10] (by kernel_rfl) ?_
      generalize hwd : wr.drew = w10 at *
      refine anyT_take [] (i := 0) (v := .slice (some ⟨ab, ao, none⟩) n ac) rfl (by kernel_rfl) (by kernel_rfl) (by kernel_rfl) (fun _ _ _ h => h) (by kernel_rfl) (Or.inl ⟨by rfl, fun w' _ => by go_simp⟩) rfl ?_
      try simp only [List.getElem_toArray, List.getElem_cons_succ, List.getElem_cons_zero, Act.put, List.setIfInBounds_toArray, List.set_cons_zero, List.set_cons_succ]
      refine anyT_take [] (i := 1) (v := .int .i64 (k : Int)) rfl (by kernel_rfl) (by kernel_rfl) (by kernel_rfl) (fun _ _ _ h => h) (by kernel_rfl) (Or.inl ⟨by rfl, fun w' _ => by go_simp⟩) rfl ?_
      try simp only [List.getElem_toArray, List.getElem_cons_succ, List.getElem_cons_zero, Act.put, List.setIfInBounds_toArray, List.set_cons_zero, List.set_cons_succ]
      refine anyT_take [] (i := 2) (v := .pointer (some ⟨ab, ao + k, none⟩)) rfl (by kernel_rfl) (by kernel_rfl) (by kernel_rfl) (fun _ _ _ h => h) (by kernel_rfl) (Or.inl ⟨by rfl, fun w' _ => by go_simp⟩) rfl ?_
      try simp only [List.getElem_toArray, List.getElem_cons_succ, List.getElem_cons_zero, Act.put, List.setIfInBounds_toArray, List.set_cons_zero, List.set_cons_succ]
      refine anyT_take [] (i := 5) (v := .slice (some ⟨ab2, ao2, none⟩) n bc) rfl (by kernel_rfl) (by kernel_rfl) (by kernel_rfl) (fun _ _ _ h => h) (by kernel_rfl) (Or.inl ⟨by rfl, fun w' _ => by go_simp⟩) rfl ?_
      try simp only [List.getElem_toArray, List.getElem_cons_succ, List.getElem_cons_zero, Act.put, List.setIfInBounds_toArray, List.set_cons_zero, List.set_cons_succ]
      refine anyT_take [] (i := 6) (v := .int .i64 (k : Int)) rfl (by kernel_rfl) (by kernel_rfl) (by kernel_rfl) (fun _ _ _ h => h) (by kernel_rfl) (Or.inl ⟨by rfl, fun w' _ => by go_simp⟩) rfl ?_
      try simp only [List.getElem_toArray, List.getElem_cons_succ, List.getElem_cons_zero, Act.put, List.setIfInBounds_toArray, List.set_cons_zero, List.set_cons_succ]
      refine anyT_take [] (i := 7) (v := .pointer (some ⟨ab2, ao2 + k, none⟩)) rfl (by kernel_rfl) (by kernel_rfl) (by kernel_rfl) (fun _ _ _ h => h) (by kernel_rfl) (Or.inl ⟨by rfl, fun w' _ => by go_simp⟩) rfl ?_
      try simp only [List.getElem_toArray, List.getElem_cons_succ, List.getElem_cons_zero, Act.put, List.setIfInBounds_toArray, List.set_cons_zero, List.set_cons_succ]
      refine anyT_take [] (i := 3) (v := xv) rfl (by kernel_rfl) (by kernel_rfl) (by kernel_rfl) (fun _ _ _ h => h) (by kernel_rfl) (Or.inl ⟨by rfl, fun w' hS => by subst hS; go_simp⟩) rfl ?_
      try simp only [List.getElem_toArray, List.getElem_cons_succ, List.getElem_cons_zero, Act.put, List.setIfInBounds_toArray, List.set_cons_zero, List.set_cons_succ]
      refine anyT_take [] (i := 8) (v := yv) rfl (by kernel_rfl) (by kernel_rfl) (by kernel_rfl) (fun _ _ _ h => h) (by kernel_rfl) (Or.inl ⟨by rfl, fun w' hS => by subst hS; go_simp⟩) rfl ?_
      try simp only [List.getElem_toArray, List.getElem_cons_succ, List.getElem_cons_zero, Act.put, List.setIfInBounds_toArray, List.set_cons_zero, List.set_cons_succ]
      refine anyT_take [] (i := 4) (v := .string S0) rfl (by kernel_rfl) (by kernel_rfl) (by kernel_rfl) (fun _ _ _ h => h) (by kernel_rfl) (Or.inl ⟨by rfl, fun w' hS => by subst hS; go_simp⟩) rfl ?_
      try simp only [List.getElem_toArray, List.getElem_cons_succ, List.getElem_cons_zero, Act.put, List.setIfInBounds_toArray, List.set_cons_zero, List.set_cons_succ]
      refine anyT_take [] (i := 9) (v := .string S0) rfl (by kernel_rfl) (by kernel_rfl) (by kernel_rfl) (fun _ _ _ h => h) (by kernel_rfl) (Or.inl ⟨by rfl, fun w' hS => by subst hS; go_simp⟩) rfl ?_
      try simp only [List.getElem_toArray, List.getElem_cons_succ, List.getElem_cons_zero, Act.put, List.setIfInBounds_toArray, List.set_cons_zero, List.set_cons_succ]
      refine anyT_take [] (i := 10) (v := .bool false) rfl (by kernel_rfl) (by kernel_rfl) (by kernel_rfl) (fun _ _ _ h => h) (by kernel_rfl) (Or.inl ⟨by rfl, fun w' _ => by go_simp⟩) rfl ?_
      try simp only [List.getElem_toArray, List.getElem_cons_succ, List.getElem_cons_zero, Act.put, List.setIfInBounds_toArray, List.set_cons_zero, List.set_cons_succ]
      refine anyT_done (by kernel_rfl) ?_ _
      have MZ := Lib.hid (M.out.call HB2.out)
      go_wp2_with (fail)
      go_roundw
      case rel => exact ⟨k + 1, by omega, by go_num, MZ⟩
      case measure => simp [intOf]; omega
    · obtain rfl : k = n := by omega
      go_wp2_with (fail)
      go_ret
      exact ⟨rfl, M.out.below⟩
set_option maxHeartbeats 8000000 in
theorem lcommit11_any (c : Cm) (va vb : Value) (la lb : List Vo) (w : World) (ha : VoIn w va la) (hb : VoIn w vb lb) (hsa : ∀ t ∈ la, BytesIn w t.sv t.sign) (hsb : ∀ t ∈ lb, BytesIn w t.sv t.sign) (hfa : ∀ t ∈ la, VoFl t ∧ (vo1 t).length + 400 ≤ 140737488355328) (hfb : ∀ t ∈ lb, VoFl t ∧ (vo1 t).length + 400 ≤ 140737488355328) (hs : SameV la lb) :
    Calls Tryz.prog 60 #[.agg (cmC c va), .agg (cmC c vb)] w fun e w' => e = .returned (.bool true) ∧ Below w.heap.size w w' := by
  obtain ⟨aa, ac, rfl, -, -⟩ := ha.len
  obtain ⟨ba, bc, rfl, -, -⟩ := hb.len
  have hb1 := below_alloc w (.cells (cmC c (.slice aa la.length ac)) 78)
  have hb2 := below_alloc (w.alloc (.cells (cmC c (.slice aa la.length ac)) 78)) (.cells (cmC c (.slice ba lb.length bc)) 78)
  have HQ := Lib.hid ((hb2.block _ (by simp)).trans (heap_alloc_new w (.cells (cmC c (.slice aa la.length ac)) 78)))
  have HC := Lib.hid (heap_alloc_new (w.alloc (.cells (cmC c (.slice aa la.length ac)) 78)) (.cells (cmC c (.slice ba lb.length bc)) 78))
  rw [size_alloc] at HC
  have HB := Lib.hid (hb1.trans (hb2.mono (by simp)))
  have HV := Lib.hid (lvotes11_any _ _ la lb _ ((ha.below hb1).below hb2) ((hb.below hb1).below hb2) (fun t m => ((hsa t m).below hb1).below hb2) (fun t m => ((hsb t m).below hb1).below hb2) hfa hfb hs)
  obtain ⟨H, hH⟩ : ∃ K, K = c.height := ⟨_, rfl⟩
  obtain ⟨R, hR⟩ : ∃ K, K = c.round := ⟨_, rfl⟩
  obtain ⟨n, hn⟩ : ∃ n, n = la.length := ⟨_, rfl⟩
  obtain ⟨m, hm⟩ : ∃ n, n = lb.length := ⟨_, rfl⟩
  rw [← hn, ← hm] at HQ HC HB HV
  rw [← hn, ← hm]
  clear ha hb hsa hsb hfa hfb hs hb1 hb2 hn hm
  go_enter Tryz.func60, Tryz.ntmps60
  go_upto_region 1 with (fail)
  generalize (w.alloc (.cells (cmC c (.slice aa n ac)) 78)).alloc (.cells (cmC c (.slice ba m bc)) 78) = w1 at *
  obtain ⟨c0, c1, c2, c3⟩ := cm_cells HQ.out
  obtain ⟨d0, d1, d2, d3⟩ := cm_cells HC.out
  rw [← hH] at c0 d0
  rw [← hR] at c1 d1
  have HR1 := Lib.hid c2
  have HR2 := Lib.hid d2
  have heq := eq32_self c.blk
  obtain ⟨q, hq⟩ : ∃ q, q = w.heap.size := ⟨_, rfl⟩
  obtain ⟨q2, hq2⟩ : ∃ q, q = w.heap.size + 1 := ⟨_, rfl⟩
  rw [← hq2] at d0 d1 d3 HR2 ⊢
  rw [← hq] at c0 c1 c3 HR1 ⊢
  clear hq hq2 c2 d2 hH hR HQ HC
  go_wp2_with (first
    | (refine wpList_load_rowT (by rfl) 65 (.tmp 18) rfl q 2 rfl (rowOf .u8 32 c.blk) _ HR1.out Tryz.underlying65 rfl (by rw [rowOf_size]; kernel_rfl) ?_)
    | (refine wpList_load_rowT (by rfl) 65 (.tmp 20) rfl q2 2 rfl (rowOf .u8 32 c.blk) _ HR2.out Tryz.underlying65 rfl (by rw [rowOf_size]; kernel_rfl) ?_)
    | (go_at_call 59; (with_reducible refine HV.out.mono ?_); rintro e w2 ⟨rfl, hb⟩; have HB2 := Lib.hid hb; clear hb))
  go_ret
  exact ⟨rfl, HB.out.trans (HB2.out.mono HB.out.size)⟩
end Go.Proofs.YtanekacpalpcbaaGreatDoor

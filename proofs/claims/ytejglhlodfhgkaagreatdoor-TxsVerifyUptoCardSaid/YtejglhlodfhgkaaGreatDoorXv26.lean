/- Part 26 of the proof. -/
import Derived.Test.YtejglhlodfhgkaaGreatDoorXv19
import Derived.Test.YtejglhlodfhgkaaGreatDoorXv25
namespace Go.Proofs.YtejglhlodfhgkaaGreatDoor
set_option linter.unusedVariables false
set_option linter.unusedSimpArgs false
open Go.RowKit
set_option maxRecDepth 100000
set_option linter.unusedSimpArgs false
set_option linter.unusedVariables false
abbrev txS15 (q : Nat) (ac dn : ByteArray) (S A : Int) (mv sv : Value) (w : World) : Prop := w.heap[q]? = some (.cells #[.string ac, .int .i64 S, .string dn, .int .i64 A, mv, sv] 34 (0, 0))
set_option maxHeartbeats 8000000 in
theorem wuns15_any (x : Tr) (g : Nat) (v : Value) (XS : List Int) (w : World) (hw : WAt w g v XS) (w0 : World) (hg : w0.heap.size ≤ g) (hB : Below w0.heap.size w0 w) (hx : TrE w0 x) (hf : TrFl x) (hl : XS.length + (tr1 x).length + 10 ≤ 140737488355328) :
    Calls Tryz.prog 52 #[.pointer (some ⟨g, 0, none⟩), .agg (trC15 x)] w fun e w' => e = .returned (.tuple #[]) ∧ WsR g v w (XS ++ tr1 x) w' := by
  obtain ⟨ac, S, dn, A, mv, ms, sv, sg⟩ := x
  obtain ⟨⟨a1, c1, e1⟩, ⟨a2, c2, e2⟩⟩ := hx.v
  simp only at e1 e2
  subst e1 e2
  have HLN := Lib.hid (show (tr1 ⟨ac, S, dn, A, .slice a1 ms.length c1, ms, .slice a2 sg.length c2, sg⟩).length = (varint ac.size).length + ac.size + (it1 S).length + ((varint dn.size).length + dn.size) + (it1 A).length + (listL mg1 ms).length from by simp only [tr1, List.length_append, st1_len])
  have HME := Lib.hid (show tr1 ⟨ac, S, dn, A, .slice a1 ms.length c1, ms, .slice a2 sg.length c2, sg⟩ = (((st1 ac ++ it1 S) ++ st1 dn) ++ it1 A) ++ listL mg1 ms from rfl)
  have HL := Lib.hid hl
  have HV1 := Lib.hid (show -9223372036854775808 ≤ S ∧ S ≤ 9223372036854775807 from hf.s)
  have HV2 := Lib.hid (show -9223372036854775808 ≤ A ∧ A ≤ 9223372036854775807 from hf.a)
  have HK1 := Lib.hid (it1_len hf.s)
  have HK2 := Lib.hid (it1_len hf.a)
  have HWM := Lib.hid (fun v XS w hw hB room => wlist15M_any w0 g hg ms (.slice a1 ms.length c1) hx.m hx.e hf.m v XS w hw hB room)
  have HB := Lib.hid hB
  have HG := Lib.hid hg
  have HW0 := Lib.hid hw
  obtain ⟨M1, hM1⟩ : ∃ z, z = tr1 ⟨ac, S, dn, A, .slice a1 ms.length c1, ms, .slice a2 sg.length c2, sg⟩ := ⟨_, rfl⟩
  rw [← hM1] at HLN HME HL ⊢
  obtain ⟨n1, hn1⟩ : ∃ z, z = ms.length := ⟨_, rfl⟩
  obtain ⟨n2, hn2⟩ : ∃ z, z = sg.length := ⟨_, rfl⟩
  rw [← hn1] at HWM
  have hCe : trC15 ⟨ac, S, dn, A, .slice a1 ms.length c1, ms, .slice a2 sg.length c2, sg⟩ = #[.string ac, .int .i64 S, .string dn, .int .i64 A, .slice a1 n1 c1, .slice a2 n2 c2] := by rw [hn1, hn2]; rfl
  rw [hCe]
  clear hM1 hn1 hn2 hCe hx hf hg hl hB
  have HBA := Lib.hid (below_alloc w (.cells #[.string ac, .int .i64 S, .string dn, .int .i64 A, .slice a1 n1 c1, .slice a2 n2 c2] 34))
  have HQ := Lib.hid (show txS15 w.heap.size ac dn S A (.slice a1 n1 c1) (.slice a2 n2 c2) (w.alloc (.cells #[.string ac, .int .i64 S, .string dn, .int .i64 A, .slice a1 n1 c1, .slice a2 n2 c2] 34)) from heap_alloc_new w (.cells #[.string ac, .int .i64 S, .string dn, .int .i64 A, .slice a1 n1 c1, .slice a2 n2 c2] 34))
  have HW := Lib.hid (hw.below HBA.out)
  have HS := Lib.hid (WStep.of_below (p := g) (v := v) HBA.out)
  have HNE := Lib.hid (show w.heap.size ≠ g ∧ some w.heap.size ≠ v.ownBlock from ⟨by have := hw.lt; omega, fun e => by have := (hw.ne _ e.symm).2; omega⟩)
  have HQB := Lib.hid (show w.heap.size < (w.alloc (.cells #[.string ac, .int .i64 S, .string dn, .int .i64 A, .slice a1 n1 c1, .slice a2 n2 c2] 34)).heap.size by simp)
  clear hw
  go_enter Tryz.func52, Tryz.ntmps52
  go_upto_region 1 with (fail)
  obtain ⟨q, hq⟩ : ∃ q, q = w.heap.size := ⟨_, rfl⟩
  rw [← hq] at HQ HNE HQB ⊢
  clear hq HBA
  generalize w.alloc (.cells #[.string ac, .int .i64 S, .string dn, .int .i64 A, .slice a1 n1 c1, .slice a2 n2 c2] 34) = w1 at *
  have HSX := Lib.hid (show ∀ v' X, WStep g v v' w1 X → txS15 q ac dn S A (.slice a1 n1 c1) (.slice a2 n2 c2) X from fun v' X hs => (hs.block q HQB.out HNE.out.1 HNE.out.2).trans HQ.out)
  have HZ := Lib.hid (WStep.refl g v w1)
  refine wp_region_T (txS15 q ac dn S A (.slice a1 n1 c1) (.slice a2 n2 c2)) [0, 1, 2, 3, 4, 5, 6, 7, 8, 9, 10, 11, 12, 13, 14] (by kernel_rfl) ?_
  replace HW := Lib.hid (HW.out.below (Below.refl _ _).drew)
  replace HS := Lib.hid (HS.out.trans (WStep.of_below (Below.refl _ _).drew))
  replace HZ := Lib.hid (HZ.out.trans (WStep.of_below (Below.refl _ _).drew))
  generalize World.drew _ = d0 at *
  refine anyT_take [] (i := 0) (v := .pointer (some ⟨g, 0, none⟩)) rfl (by kernel_rfl) (by kernel_rfl) (by kernel_rfl) (fun _ _ _ h => h) (by kernel_rfl) (Or.inl ⟨by rfl, fun w' _ => by go_simp⟩) (HSX.out _ _ HZ.out) ?_
  try simp only [List.getElem_toArray, List.getElem_cons_succ, List.getElem_cons_zero, Act.put, List.setIfInBounds_toArray, List.set_cons_zero, List.set_cons_succ]
  refine anyT_take [] (i := 1) (v := .pointer (some ⟨q, 0, none⟩)) rfl (by kernel_rfl) (by kernel_rfl) (by kernel_rfl) (fun _ _ _ h => h) (by kernel_rfl) (Or.inl ⟨by rfl, fun w' _ => by go_simp⟩) (HSX.out _ _ HZ.out) ?_
  try simp only [List.getElem_toArray, List.getElem_cons_succ, List.getElem_cons_zero, Act.put, List.setIfInBounds_toArray, List.set_cons_zero, List.set_cons_succ]
  refine anyT_take [] (i := 4) (v := .pointer (some ⟨q, 1, none⟩)) rfl (by kernel_rfl) (by kernel_rfl) (by kernel_rfl) (fun _ _ _ h => h) (by kernel_rfl) (Or.inl ⟨by rfl, fun w' _ => by go_simp⟩) (HSX.out _ _ HZ.out) ?_
  try simp only [List.getElem_toArray, List.getElem_cons_succ, List.getElem_cons_zero, Act.put, List.setIfInBounds_toArray, List.set_cons_zero, List.set_cons_succ]
  refine anyT_take [] (i := 7) (v := .pointer (some ⟨q, 2, none⟩)) rfl (by kernel_rfl) (by kernel_rfl) (by kernel_rfl) (fun _ _ _ h => h) (by kernel_rfl) (Or.inl ⟨by rfl, fun w' _ => by go_simp⟩) (HSX.out _ _ HZ.out) ?_
  try simp only [List.getElem_toArray, List.getElem_cons_succ, List.getElem_cons_zero, Act.put, List.setIfInBounds_toArray, List.set_cons_zero, List.set_cons_succ]
  refine anyT_take [] (i := 8) (v := .pointer (some ⟨q, 2, none⟩)) rfl (by kernel_rfl) (by kernel_rfl) (by kernel_rfl) (fun _ _ _ h => h) (by kernel_rfl) (Or.inl ⟨by rfl, fun w' _ => by go_simp⟩) (HSX.out _ _ HZ.out) ?_
  try simp only [List.getElem_toArray, List.getElem_cons_succ, List.getElem_cons_zero, Act.put, List.setIfInBounds_toArray, List.set_cons_zero, List.set_cons_succ]
  refine anyT_take [] (i := 11) (v := .pointer (some ⟨q, 2, none⟩)) rfl (by kernel_rfl) (by kernel_rfl) (by kernel_rfl) (fun _ _ _ h => h) (by kernel_rfl) (Or.inl ⟨by rfl, fun w' _ => by go_simp⟩) (HSX.out _ _ HZ.out) ?_
  try simp only [List.getElem_toArray, List.getElem_cons_succ, List.getElem_cons_zero, Act.put, List.setIfInBounds_toArray, List.set_cons_zero, List.set_cons_succ]
  refine anyT_take [] (i := 12) (v := .pointer (some ⟨q, 3, none⟩)) rfl (by kernel_rfl) (by kernel_rfl) (by kernel_rfl) (fun _ _ _ h => h) (by kernel_rfl) (Or.inl ⟨by rfl, fun w' _ => by go_simp⟩) (HSX.out _ _ HZ.out) ?_
  try simp only [List.getElem_toArray, List.getElem_cons_succ, List.getElem_cons_zero, Act.put, List.setIfInBounds_toArray, List.set_cons_zero, List.set_cons_succ]
  refine anyT_take [] (i := 2) (v := .string ac) rfl (by kernel_rfl) (by kernel_rfl) (by kernel_rfl) (fun _ _ _ h => h) (by kernel_rfl) (Or.inl ⟨by rfl, fun w' hS => by have c := (tx_cells hS).1; go_simp⟩) (HSX.out _ _ HZ.out) ?_
  try simp only [List.getElem_toArray, List.getElem_cons_succ, List.getElem_cons_zero, Act.put, List.setIfInBounds_toArray, List.set_cons_zero, List.set_cons_succ]
  refine anyT_take [] (i := 5) (v := .int .i64 S) rfl (by kernel_rfl) (by kernel_rfl) (by kernel_rfl) (fun _ _ _ h => h) (by kernel_rfl) (Or.inl ⟨by rfl, fun w' hS => by have c := (tx_cells hS).2.1; go_simp⟩) (HSX.out _ _ HZ.out) ?_
  try simp only [List.getElem_toArray, List.getElem_cons_succ, List.getElem_cons_zero, Act.put, List.setIfInBounds_toArray, List.set_cons_zero, List.set_cons_succ]
  refine anyT_take [] (i := 9) (v := .string dn) rfl (by kernel_rfl) (by kernel_rfl) (by kernel_rfl) (fun _ _ _ h => h) (by kernel_rfl) (Or.inl ⟨by rfl, fun w' hS => by have c := (tx_cells hS).2.2.2.1; go_simp⟩) (HSX.out _ _ HZ.out) ?_
  try simp only [List.getElem_toArray, List.getElem_cons_succ, List.getElem_cons_zero, Act.put, List.setIfInBounds_toArray, List.set_cons_zero, List.set_cons_succ]
  refine anyT_take [] (i := 13) (v := .int .i64 A) rfl (by kernel_rfl) (by kernel_rfl) (by kernel_rfl) (fun _ _ _ h => h) (by kernel_rfl) (Or.inl ⟨by rfl, fun w' hS => by have c := (tx_cells hS).2.2.2.2.1; go_simp⟩) (HSX.out _ _ HZ.out) ?_
  try simp only [List.getElem_toArray, List.getElem_cons_succ, List.getElem_cons_zero, Act.put, List.setIfInBounds_toArray, List.set_cons_zero, List.set_cons_succ]
  refine anyT_one (i := 3) (by kernel_rfl) rfl (fun K hK => ?_)
  rw [if_pos (by rfl)]
  try simp only [List.getElem_toArray, List.getElem_cons_succ, List.getElem_cons_zero]
  (go_simp; (with_reducible refine (wtext_any g _ ac _ d0 HW.out (by have := HL.out; have := HLN.out; omega)).mono ?_); rintro e w2 hp; obtain ⟨rfl, v2, hw, hs⟩ := wpS_next hp; replace HW := Lib.hid hw; replace HS := Lib.hid (HS.out.trans hs); replace HZ := Lib.hid (HZ.out.trans hs); clear hp hw hs)
  refine hK _ _ (fun _ => HSX.out _ _ HZ.out) ?_
  clear hK K
  try simp only [List.getElem_toArray, List.getElem_cons_succ, List.getElem_cons_zero, Act.put, List.setIfInBounds_toArray, List.set_cons_zero, List.set_cons_succ]
  refine anyT_one (i := 6) (by kernel_rfl) rfl (fun K hK => ?_)
  rw [if_pos (by rfl)]
  try simp only [List.getElem_toArray, List.getElem_cons_succ, List.getElem_cons_zero]
  (go_simp; (with_reducible refine (wint_any g _ S _ w2 HW.out HV1.out.1 HV1.out.2 (by have := HL.out; have := HLN.out; have := HK1.out; have := HK2.out; (try simp only [List.length_append, numsOf_length]); omega)).mono ?_); rintro e w3 hp; obtain ⟨rfl, v3, hw, hs⟩ := wpS_next hp; replace HW := Lib.hid hw; replace HS := Lib.hid (HS.out.trans hs); replace HZ := Lib.hid (HZ.out.trans hs); clear hp hw hs)
  refine hK _ _ (fun _ => HSX.out _ _ HZ.out) ?_
  clear hK K
  try simp only [List.getElem_toArray, List.getElem_cons_succ, List.getElem_cons_zero, Act.put, List.setIfInBounds_toArray, List.set_cons_zero, List.set_cons_succ]
  refine anyT_one (i := 10) (by kernel_rfl) rfl (fun K hK => ?_)
  rw [if_pos (by rfl)]
  try simp only [List.getElem_toArray, List.getElem_cons_succ, List.getElem_cons_zero]
  (go_simp; (with_reducible refine (wtext_any g _ dn _ w3 HW.out (by have := HL.out; have := HLN.out; have := HK1.out; have := HK2.out; (try simp only [List.length_append, numsOf_length]); have : (varint (zig S)).length = (it1 S).length := rfl; omega)).mono ?_); rintro e w4 hp; obtain ⟨rfl, v4, hw, hs⟩ := wpS_next hp; replace HW := Lib.hid hw; replace HS := Lib.hid (HS.out.trans hs); replace HZ := Lib.hid (HZ.out.trans hs); clear hp hw hs)
  refine hK _ _ (fun _ => HSX.out _ _ HZ.out) ?_
  clear hK K
  try simp only [List.getElem_toArray, List.getElem_cons_succ, List.getElem_cons_zero, Act.put, List.setIfInBounds_toArray, List.set_cons_zero, List.set_cons_succ]
  refine anyT_one (i := 14) (by kernel_rfl) rfl (fun K hK => ?_)
  rw [if_pos (by rfl)]
  try simp only [List.getElem_toArray, List.getElem_cons_succ, List.getElem_cons_zero]
  (go_simp; (with_reducible refine (wint_any g _ A _ w4 HW.out HV2.out.1 HV2.out.2 (by have := HL.out; have := HLN.out; have := HK1.out; have := HK2.out; (try simp only [List.length_append, numsOf_length]); have : (varint (zig S)).length = (it1 S).length := rfl; omega)).mono ?_); rintro e w5 hp; obtain ⟨rfl, v5, hw, hs⟩ := wpS_next hp; replace HW := Lib.hid hw; replace HS := Lib.hid (HS.out.trans hs); replace HZ := Lib.hid (HZ.out.trans hs); clear hp hw hs)
  refine hK _ _ (fun _ => HSX.out _ _ HZ.out) ?_
  clear hK K
  try simp only [List.getElem_toArray, List.getElem_cons_succ, List.getElem_cons_zero, Act.put, List.setIfInBounds_toArray, List.set_cons_zero, List.set_cons_succ]
  refine anyT_done (by kernel_rfl) ?_ _
  have c4 := (tx_cells (HSX.out _ _ HZ.out)).2.2.2.2.2.1
  go_wp2_with (go_at_call 117; (with_reducible refine (HWM.out _ _ w5 HW.out (HB.out.trans (HS.out.below HW0.out HG.out)) (by have := HL.out; have := HLN.out; have := HK1.out; have := HK2.out; simp only [List.length_append, numsOf_length]; have : (varint (zig S)).length = (it1 S).length := rfl; have : (varint (zig A)).length = (it1 A).length := rfl; omega)).mono ?_); rintro e w6 ⟨rfl, v6, hw6, hs6⟩; replace HW := Lib.hid hw6; replace HS := Lib.hid (HS.out.trans hs6); clear hw6 hs6)
  go_end0
  refine ⟨rfl, v6, ?_, HS.out⟩
  have h := HW.out
  rw [HME.out]
  simpa only [st1, it1, List.append_assoc] using h
/-- a transaction's row, and its parts beside it -/
structure TxB (w : World) (q : Nat) (C : Array Value) (x : Tr) (wr : World) : Prop where
  r : wr.heap[q]? = some (.cells C 34 (0, 0))
  x : TrE wr x
  b : Below w.heap.size w wr
theorem TxB.call {w : World} {q : Nat} {C : Array Value} {x : Tr} {wr wr' : World} (m : TxB w q C x wr) (h : Below wr.heap.size wr wr') : TxB w q C x wr' := ⟨(h.block q (bkT_lt m.r)).trans m.r, m.x.below h, m.b.trans (h.mono m.b.size)⟩
set_option maxHeartbeats 8000000 in
theorem tbytes_any (c : ByteArray) (x : Tr) (w : World) (hx : TrE w x) (hf : TrFl x) (hl : (trS c x).length + 400 ≤ 140737488355328) :
    Calls Tryz.prog 16 #[.string c, .agg (trC15 x)] w fun e w' => ∃ vb, e = .returned vb ∧ BytesIn w' vb (trS c x) ∧ Below w.heap.size w w' := by
  have HLN := Lib.hid (show (trS c x).length = (st1 { data := #[116, 120] }).length + ((varint c.size).length + c.size) + (tr1 x).length from by simp only [trS, List.length_append, st1_len])
  have HL := Lib.hid hl
  have M := Lib.hid (show TxB w w.heap.size (trC15 x) x (w.alloc (.cells (trC15 x) 34)) from ⟨heap_alloc_new _ _, hx.below (below_alloc _ _), below_alloc _ _⟩)
  have HCS := Lib.hid (trC15_size x)
  have HCW := Lib.hid (fun g v XS w hw w0 hg hB he hr => wuns15_any x g v XS w hw w0 hg hB he hf hr)
  have HT1 := Lib.hid (show ∀ g v w, WAt w g v [] → Calls Tryz.prog 63 #[.pointer (some ⟨g, 0, none⟩), .string { data := #[116, 120] }] w (WPost g v [] (st1 { data := #[116, 120] }) w) from fun g v w hw => wtext_any g v { data := #[116, 120] } [] w hw (by show 0 + 2 + 10 ≤ _; omega))
  have HT2 := Lib.hid (show ∀ g v XS w, WAt w g v XS → XS.length + c.size + 10 ≤ 140737488355328 → Calls Tryz.prog 63 #[.pointer (some ⟨g, 0, none⟩), .string c] w (WPost g v XS (st1 c) w) from fun g v XS w hw hl => wtext_any g v c XS w hw hl)
  have HCL := Lib.hid (st1_len c)
  have HSE := Lib.hid (show trS c x = (st1 { data := #[116, 120] } ++ st1 c) ++ tr1 x from rfl)
  obtain ⟨CC, hCC⟩ : ∃ z, z = trC15 x := ⟨_, rfl⟩
  rw [← hCC] at M HCS HCW ⊢
  obtain ⟨LT, hLT⟩ : ∃ z, z = tr1 x := ⟨_, rfl⟩
  rw [← hLT] at HLN HCW HSE
  obtain ⟨LS, hLS⟩ : ∃ z, z = trS c x := ⟨_, rfl⟩
  rw [← hLS] at HLN HSE HL ⊢
  clear hl hCC hLT hLS hx hf
  go_enter Tryz.func16, Tryz.ntmps16
  go_upto_region 1 with (fail)
  obtain ⟨q, hq⟩ : ∃ q, q = w.heap.size := ⟨_, rfl⟩
  rw [← hq] at M ⊢
  clear hq
  generalize w.alloc (.cells CC 34) = w1 at *
  go_wp2_with (first
    | (go_at_call 51; (with_reducible refine (new_any w1).mono ?_); rintro e w2 ⟨rfl, hw, hb⟩; obtain ⟨g, hg⟩ : ∃ g, g = w1.heap.size := ⟨_, rfl⟩; rw [← hg] at hw ⊢; have HG := Lib.hid hg; have HW := Lib.hid hw; have HB2 := Lib.hid hb; clear hw hb hg)
    | (go_at_call 63; (with_reducible refine (HT1.out g _ w2 HW.out).mono ?_); rintro e w3 hp; obtain ⟨rfl, v3, hw, hs⟩ := wpS_next hp; have HB3 := Lib.hid (HB2.out.trans (hs.below HW.out (by rw [HG.out]; exact Nat.le_refl _))); replace HW := Lib.hid (show WAt w3 g v3 (st1 { data := #[116, 120] }) from hw); clear hp hw hs)
    | (go_at_call 63; (with_reducible refine (HT2.out g _ _ w3 HW.out (by have := HL.out; have := HLN.out; omega)).mono ?_); rintro e w4 hp; obtain ⟨rfl, v4, hw, hs⟩ := wpS_next hp; have HB4 := Lib.hid (HB3.out.trans (hs.below HW.out (by rw [HG.out]; exact Nat.le_refl _))); replace HW := Lib.hid hw; have HQ4 := Lib.hid ((HB4.out.block q (bkT_lt M.out.r)).trans M.out.r); clear hp hw hs)
    | (refine wpList_load_rowT (by rfl) 34 (.tmp 3) rfl q 0 rfl CC _ (rowT_range HQ4.out) Tryz.underlying34 rfl (by rw [HCS.out]; kernel_rfl) ?_)
    | (go_at_call 52; (with_reducible refine (HCW.out g _ _ w4 HW.out w1 (by rw [HG.out]; exact Nat.le_refl _) HB4.out M.out.x (by have := HL.out; have := HLN.out; have := HCL.out; simp only [List.length_append]; omega)).mono ?_); rintro e w5 ⟨rfl, v5, hw, hs⟩; have HB5 := Lib.hid (HB4.out.trans (hs.below HW.out (by rw [HG.out]; exact Nat.le_refl _))); replace HW := Lib.hid (show WAt w5 g v5 LS from by rw [HSE.out]; exact hw); clear hw hs)
    | (go_at_call 54; (with_reducible refine (done_any g _ _ w5 HW.out (by have := HL.out; omega)).mono ?_); rintro e w6 ⟨vb, rfl, ho, hb⟩; have HO := Lib.hid ho; have HB6 := Lib.hid (HB5.out.trans (hb.mono HB5.out.size)); clear ho hb))
  go_ret
  exact ⟨_, rfl, owns_in HO.out (by have := HL.out; unfold maxLen; omega), M.out.b.trans (HB6.out.mono M.out.b.size)⟩
end Go.Proofs.YtejglhlodfhgkaaGreatDoor

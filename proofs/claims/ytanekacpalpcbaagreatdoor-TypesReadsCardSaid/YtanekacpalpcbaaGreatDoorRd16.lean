/- Part 16 of the proof. -/
import Derived.Test.YtanekacpalpcbaaGreatDoorRd15
namespace Go.Proofs.YtanekacpalpcbaaGreatDoor
set_option linter.unusedVariables false
set_option linter.unusedSimpArgs false
open Go.RowKit
set_option maxRecDepth 100000
set_option linter.unusedSimpArgs false
set_option linter.unusedVariables false
theorem one_mem11 {A : Array Value} (h : A.all (·.oneCell') = true) : ∀ u ∈ A.toList, u.oneCell' = true := by
  rw [← Array.all_toList] at h
  exact List.all_eq_true.1 h
theorem vo_built (k h r : Int) (F : Nat → Int) (v : Int) (a : Option Addr) (n c : Nat) (G : List Int) : Tryz.prog.built 93 [(0, .int .i64 k), (1, .int .i64 h), (2, .int .i64 r), (3, .agg (rowOf .u8 32 F)), (4, .int .i64 v), (5, .slice a n c)] = some (voC ⟨k, h, r, F, v, .slice a n c, G⟩) := by kernel_rfl
theorem hd_built (CH : ByteArray) (HT TM : Int) (LA AP TX VA NX : Nat → Int) (PR : Int) : Tryz.prog.built 74 [(0, .string CH), (1, .int .i64 HT), (2, .int .i64 TM), (3, .agg (rowOf .u8 32 LA)), (4, .agg (rowOf .u8 32 AP)), (5, .agg (rowOf .u8 32 TX)), (6, .agg (rowOf .u8 32 VA)), (7, .agg (rowOf .u8 32 NX)), (8, .int .i64 PR)] = some (hdD CH HT TM LA AP TX VA NX PR) := by kernel_rfl
theorem cm_built (h r : Int) (F : Nat → Int) (a : Option Addr) (n c : Nat) : Tryz.prog.built 78 [(0, .int .i64 h), (1, .int .i64 r), (2, .agg (rowOf .u8 32 F)), (3, .slice a n c)] = some (cmC ⟨h, r, F⟩ (.slice a n c)) := by kernel_rfl
/-- a block's cells -/
def bkD (H : Array Value) (tv : Value) (C : Array Value) : Array Value := H ++ (#[tv] ++ C)
theorem bk_built (CH : ByteArray) (HT TM : Int) (LA AP TX VA NX : Nat → Int) (PR : Int) (a : Option Addr) (n c : Nat) (h r : Int) (F : Nat → Int) (a2 : Option Addr) (n2 c2 : Nat) : Tryz.prog.built 80 [(0, .agg (hdD CH HT TM LA AP TX VA NX PR)), (1, .slice a n c), (2, .agg (cmC ⟨h, r, F⟩ (.slice a2 n2 c2)))] = some (bkD (hdD CH HT TM LA AP TX VA NX PR) (.slice a n c) (cmC ⟨h, r, F⟩ (.slice a2 n2 c2))) := by kernel_rfl
theorem hdD_one11 (CH : ByteArray) (HT TM : Int) (LA AP TX VA NX : Nat → Int) (PR : Int) : (hdD CH HT TM LA AP TX VA NX PR).all (·.oneCell') = true := by
  unfold hdD
  simp only [Array.all_append, rowOf_one]
  simp [Value.oneCell']
theorem cmC_one11 (c : Cm) (a : Option Addr) (n k : Nat) : (cmC c (.slice a n k)).all (·.oneCell') = true := by
  unfold cmC
  simp only [Array.all_append, rowOf_one]
  simp [Value.oneCell']
def voZ11 : Value := .agg (voC ⟨0, 0, 0, fun _ => 0, 0, .slice none 0 0, []⟩)
def tbZ11 : Value := .slice none 0 0
abbrev voTL (t : Vo) : List Value := (voC t).toList
abbrev tbTL (t : Tb) : List Value := [t.bv]
theorem bkD_size {H C : Array Value} {tv : Value} (h1 : H.size = 164) (h2 : C.size = 35) : (bkD H tv C).size = 200 := by simp [bkD, h1, h2]
theorem bkD_one {H C : Array Value} {a : Option Addr} {n c : Nat} (h1 : H.all (·.oneCell') = true) (h2 : C.all (·.oneCell') = true) : (bkD H (.slice a n c) C).all (·.oneCell') = true := by
  unfold bkD
  simp only [Array.all_append, h1, h2]
  simp [Value.oneCell']
set_option maxHeartbeats 4000000 in
theorem rvote11 (p : Nat) (ob : Option Nat) (s : RSt) (w : World) (h : RO w p ob s) :
    Calls Tryz.prog 116 #[.pointer (some ⟨p, 0, none⟩)] w fun r w' => ∃ sv, r = .returned (.agg (voC (vtV s sv))) ∧ BytesIn w' sv (vtG s) ∧ (∀ j, sv.ownBlock = some j → w.heap.size ≤ j ∧ j < w'.heap.size) ∧ RO w' p ob (vtR s) ∧ Only p w w' := by
  have HLT := Lib.hid h.lt11
  have HOB := Lib.hid h.own11
  have HR0' := Lib.hid (fun o => h.below11 (below_alloc w o))
  clear h
  go_enter Tryz.func116, Tryz.ntmps116
  go_upto_region 1 with (fail)
  generalize hA : World.alloc w _ = w1
  obtain ⟨cz, hcz, hq⟩ : ∃ cz : Array Value, cz.size = 37 ∧ w1.heap[w.heap.size]? = some (.cells cz 93 (0, 0)) := ⟨_, by kernel_rfl, by rw [← hA]; exact heap_alloc_new _ _⟩
  have HCZ := Lib.hid hcz
  have HQ := Lib.hid hq
  have HR0 := Lib.hid (show RO w1 p ob s from by rw [← hA]; exact HR0'.out _)
  have HO0 := Lib.hid (show Only p w w1 from by rw [← hA]; exact Only.of_below (below_alloc _ _))
  clear hA hcz hq HR0'
  obtain ⟨q, hqe⟩ : ∃ q, q = w.heap.size := ⟨_, rfl⟩
  have HQE := Lib.hid hqe
  rw [← hqe] at HQ ⊢
  clear hqe
  go_wp2_with (first
    | (go_at_call 185; (with_reducible refine (intO_any p ob _ w1 HR0.out).mono ?_); rintro e w2 ⟨rfl, hr, ho⟩; have HR1 := Lib.hid hr; have HO1 := Lib.hid (HO0.out.trans ho); replace HQ := Lib.hid ((ho.block q (Array.getElem?_eq_some_iff.1 HQ.out).1 (by have := HLT.out; have := HQE.out; omega)).trans HQ.out); clear hr ho)
    | (go_at_call 185; (with_reducible refine (intO_any p ob _ w2 HR1.out).mono ?_); rintro e w3 ⟨rfl, hr, ho⟩; have HR2 := Lib.hid hr; have HO2 := Lib.hid (HO1.out.trans ho); replace HQ := Lib.hid ((ho.block q (Array.getElem?_eq_some_iff.1 HQ.out).1 (by have := HLT.out; have := HQE.out; omega)).trans HQ.out); clear hr ho)
    | (go_at_call 185; (with_reducible refine (intO_any p ob _ w3 HR2.out).mono ?_); rintro e w4 ⟨rfl, hr, ho⟩; have HR3 := Lib.hid hr; have HO3 := Lib.hid (HO2.out.trans ho); replace HQ := Lib.hid ((ho.block q (Array.getElem?_eq_some_iff.1 HQ.out).1 (by have := HLT.out; have := HQE.out; omega)).trans HQ.out); clear hr ho)
    | (go_at_call 186; (with_reducible refine (hashO11 p ob _ w4 HR3.out).mono ?_); rintro e w5 ⟨rfl, hr, ho⟩; have HR4 := Lib.hid hr; have HO4 := Lib.hid (HO3.out.trans ho); replace HQ := Lib.hid ((ho.block q (Array.getElem?_eq_some_iff.1 HQ.out).1 (by have := HLT.out; have := HQE.out; omega)).trans HQ.out); clear hr ho)
    | (go_at_call 185; (with_reducible refine (intO_any p ob _ w5 HR4.out).mono ?_); rintro e w6 ⟨rfl, hr, ho⟩; have HR5 := Lib.hid hr; have HO5 := Lib.hid (HO4.out.trans ho); replace HQ := Lib.hid ((ho.block q (Array.getElem?_eq_some_iff.1 HQ.out).1 (by have := HLT.out; have := HQE.out; omega)).trans HQ.out); clear hr ho)
    | (go_at_call 187; (with_reducible refine (rbytesO_any p ob _ 65536 w6 HR5.out (by omega) (by omega)).mono ?_); rintro e w7 ⟨sv, rfl, hb, hn, hr, ho⟩; have HQL := Lib.hid (show q < w6.heap.size from (Array.getElem?_eq_some_iff.1 HQ.out).1); have HR6 := Lib.hid hr; have HO6 := Lib.hid (HO5.out.trans ho); replace HQ := Lib.hid ((ho.block q (Array.getElem?_eq_some_iff.1 HQ.out).1 (by have := HLT.out; have := HQE.out; omega)).trans HQ.out); clear hr ho; have HBI := Lib.hid hb; have HNW := Lib.hid (show ∀ j, sv.ownBlock = some j → q < j ∧ j < w7.heap.size from fun j hj => by have := hn j hj; have := HQL.out; omega); obtain ⟨sa, sc, rfl, -⟩ := id hb; clear hb hn; obtain ⟨CV, hCV⟩ : ∃ x, x = voC (vtV s (.slice sa (vtG s).length sc)) := ⟨_, rfl⟩; have HBU := Lib.hid ((vo_built _ _ _ _ _ _ _ _ _).trans (congrArg some hCV.symm)); have HOC := Lib.hid (show CV.all (·.oneCell') = true from by rw [hCV]; exact voC_one _ ⟨_, _, _, rfl⟩); have HZC := Lib.hid ((congrArg Array.size hCV).trans (voC_size _)); have HCV := Lib.hid hCV; clear hCV)
    | (refine wpList_buildTo rfl 93 #[(0, .tmp 4), (1, .tmp 6), (2, .tmp 8), (3, .tmp 10), (4, .tmp 12), (5, .tmp 14)] rfl (some 15) rfl CV (by refine Eq.trans (congrArg (Tryz.prog.built 93) ?_) HBU.out; kernel_rfl) ?_)
    | (refine wpList_store_row rfl 93 (.tmp 2) (.tmp 15) rfl q CV rfl rfl 93 _ HQ.out (by rw [HZC.out]; kernel_rfl) (by rw [HZC.out, HCZ.out]) HOC.out ?_))
  refine bodyPost_ret (results_cell_row rfl _ _ q 93 CV (0, 0) _ rfl (setRow_heap _ _ _ _ _ _ HQ.out) Tryz.underlying93 rfl (by rw [HZC.out]; kernel_rfl)) rfl ?_
  have hpq : p ≠ q := by have := HLT.out; have := HQE.out; omega
  have hoq := only_setRow11 w7 q CV
  have hwq : w.heap.size ≤ q := by rw [HQE.out]; exact Nat.le_refl _
  have hHO : Only p w (w7.setRow q CV) := HO6.out.behind hwq CV
  refine ⟨.slice sa (vtG s).length sc, by rw [HCV.out], HBI.out.only hoq (fun j hj => by have := HNW.out j hj; omega), fun j hj => by have := HNW.out j hj; have := hoq.size; omega, HR6.out.stay11 hoq hpq (fun hn k hk => ?_), hHO⟩
  have := HOB.out (fun e => hn (vtE11 e)) k hk
  have := HQE.out
  omega
theorem rtx11 (p : Nat) (ob : Option Nat) (s : RSt) (w : World) (h : RO w p ob s) :
    Calls Tryz.prog 191 #[.pointer (some ⟨p, 0, none⟩)] w fun r w' => ∃ bv, r = .returned bv ∧ BytesIn w' bv (partS s 65536).1 ∧ (∀ j, bv.ownBlock = some j → w.heap.size ≤ j ∧ j < w'.heap.size) ∧ RO w' p ob (partS s 65536).2 ∧ Only p w w' := by
  have HC := Lib.hid (rbytesO_any p ob s 65536 w h (by omega) (by omega))
  clear h
  go_enter Tryz.func191, Tryz.ntmps191
  go_wp2_with (go_at_call 187; (with_reducible refine HC.out.mono ?_); rintro e w1 ⟨bv, rfl, hb, hn, hr, ho⟩; have HB := Lib.hid hb; have HN := Lib.hid hn; have HR := Lib.hid hr; have HO := Lib.hid ho; clear hb hn hr ho)
  go_ret
  exact ⟨_, rfl, HB.out, HN.out, HR.out, HO.out⟩
theorem cnt_le11 (s : RSt) (most : Nat) : (countS s most).1 ≤ most := by
  unfold countS
  split
  · exact Nat.zero_le _
  · split
    · exact Nat.zero_le _
    · obtain ⟨ys, e⟩ := s
      cases e with
      | some x => exact Nat.zero_le _
      | none =>
        cases h : (rdF ys most).2.2 with
        | some x => rw [uintS_bad h]; exact Nat.zero_le _
        | none => rw [uintS_good h]; exact (rdF_ok h).2.2
structure LVM (w : World) (p : Nat) (ob : Option Nat) (s1 : RSt) (B : Nat) (vv : Value) (svs : List Value) (wr : World) : Prop where
  row : wr.ownsRow B 93 37 vv svs.length ((vts s1 svs).flatMap voTL)
  el : ∀ t ∈ vts s1 svs, BytesIn wr t.sv t.sign ∧ (∀ j, t.sv.ownBlock = some j → B ≤ j ∧ j < wr.heap.size ∧ vv.ownBlock ≠ some j)
  rd : RO wr p ob (vtN svs.length s1)
  only : Only p w wr
  B0 : w.heap.size ≤ B
  B1 : B ≤ wr.heap.size
  pB : p < B
  ob : s1.1 ≠ [] → ∀ k, ob = some k → k < B
theorem LVM.new {w : World} {p : Nat} {ob : Option Nat} {s1 : RSt} {B : Nat} {vv : Value} {svs : List Value} {wr : World} (m : LVM w p ob s1 B vv svs wr) {k : Nat} (h : vv.ownBlock = some k) : B ≤ k ∧ k < wr.heap.size := m.row.lt k h
def LVR (w : World) (p : Nat) (ob : Option Nat) (s1 : RSt) (B : Nat) (k : Nat) (vv : Value) (wr : World) : Prop := ∃ svs, svs.length = k ∧ LVM w p ob s1 B vv svs wr
theorem infoV11 : (Tryz.prog.info? 93).map (fun i => (i.zero, i.size, i.bytes)) = some (some voZ11, 37, 88) := by kernel_rfl
theorem voTL_len (t : Vo) : (voTL t).length = 37 := by rw [Array.length_toList, voC_size]
theorem vo_fill11 (t : Vo) (ht : ∃ a n c, t.sv = .slice a n c) : Instr.fill (fun i => some (i * 37, 37)) ((Array.range (1 * 37)).map (voZ11.cells[· % voZ11.cells.size]!)) [(0, .agg (voC t))] = some (voTL t).toArray := by
  obtain ⟨k, h, r, F, v, sv, G⟩ := t
  obtain ⟨a, n, c, rfl⟩ := ht
  kernel_rfl
theorem voTL_one {t : Vo} (ht : ∃ a n c, t.sv = .slice a n c) : ∀ u ∈ voTL t, u.oneCell' = true := one_mem11 (voC_one t ht)
theorem wpList_oneV {w : World} {ops : Array Oper} {rest : List Oper} {o : Oper} {a : Act} {Q : Exit → Act → World → Prop} (hgd : o.guard = none) (x : Operand) (ho : o.op = .buildSlice 76 1 #[(0, x)]) (d : Option Tmp) (hd : o.dst = d) (t : Vo) (ht : ∃ a n c, t.sv = .slice a n c) (v : Value) (hv : v = (.agg (voC t))) (hx : a.eval x = v)
    (h : wpList Tryz.prog ops Q rest (a.put d (.slice (some ⟨w.heap.size, 0, none⟩) 1 1)) (w.alloc (.cells (voTL t).toArray 93))) : wpList Tryz.prog ops Q (o :: rest) a w := by
  subst hd hv
  refine wpList_plain hgd fun K hK => ?_
  obtain ⟨i0, hi, hz0, hz1, hz2⟩ := info_parts infoV11
  refine wp_buildSlice 76 93 1 #[(0, x)] ho (voTL t).toArray i0 _ Tryz.underlying76 hi hz0 (by rw [hz1]; decide) (by rw [hz1]; decide) ?_ (hK _ _ h)
  rw [hz1]
  simpa [hx] using vo_fill11 t ht
theorem LV_row {w : World} {p : Nat} {ob : Option Nat} {s1 : RSt} {B : Nat} {va : Option Addr} {k vc : Nat} {svs : List Value} {wr w2 w3 : World} (m : LVM w p ob s1 B (.slice va k vc) svs wr) (hs : svs.length = k) (ho : Only p wr w2) (hb : Below w2.heap.size w2 w3) : w3.ownsRow B 93 37 (.slice va k vc) (vts s1 svs).length ((vts s1 svs).flatMap voTL) := by
  rw [vts_len]
  refine own_stay11 m.row fun j hj => ?_
  have := m.new hj
  have := m.pB
  rw [hb.block j (Nat.lt_of_lt_of_le (m.new hj).2 ho.size), ho.block j (m.new hj).2 (by omega)]
theorem LV_next {w : World} {p : Nat} {ob : Option Nat} {s1 : RSt} {B : Nat} {va : Option Addr} {k vc : Nat} {svs : List Value} {wr w2 w3 w4 : World} {sv v4 : Value} (m : LVM w p ob s1 B (.slice va k vc) svs wr) (hs : svs.length = k) (ho : Only p wr w2) (hb : Below w2.heap.size w2 w3)
    (ho4 : w4.ownsRow B 93 37 v4 (vts s1 svs ++ [vtV (vtN k s1) sv]).length ((vts s1 svs ++ [vtV (vtN k s1) sv]).flatMap voTL)) (hg4 : w3.grownBy w4 (Value.slice va k vc).ownBlock) (hw4 : v4.ownBlock = (Value.slice va k vc).ownBlock ∨ v4.ownBlock = some w3.heap.size)
    (hbi : BytesIn w2 sv (vtG (vtN k s1))) (hnw : ∀ j, sv.ownBlock = some j → wr.heap.size ≤ j ∧ j < w2.heap.size) (hr : RO w2 p ob (vtR (vtN k s1))) : LVR w p ob s1 B (k + 1) v4 w4 := by
  have hpB := m.pB
  have hB1 := m.B1
  have hs1 := ho.size
  have hs2 := hb.size
  have hs3 := hg4.size
  have ho3 : Only p wr w3 := ho.trans (Only.of_below hb)
  have hst : ∀ j, j < w3.heap.size → (Value.slice va k vc).ownBlock ≠ some j → w4.heap[j]? = w3.heap[j]? := fun j hj hne => hg4.block j hj (fun e => hne e.symm)
  have keepB : ∀ (u : Value) (xs : List Int), BytesIn w3 u xs → (∀ j, u.ownBlock = some j → (Value.slice va k vc).ownBlock ≠ some j) → BytesIn w4 u xs := fun u xs hu hne => by
    obtain ⟨a, c, rfl, h1, h2, h3⟩ := hu
    refine ⟨a, c, rfl, h1, h2, h3.imp id ?_⟩
    rintro ⟨ab, ao, rfl, h5⟩
    refine ⟨ab, ao, rfl, fun i x hi => ?_⟩
    have h4 := h5 i x hi
    rw [← h4]
    exact World.cell?_of_block (hst ab (World.block_lt_of_cell? _ _ h4) (hne ab rfl))
  have hv4 : ∀ j, v4.ownBlock = some j → (Value.slice va k vc).ownBlock = some j ∨ j = w3.heap.size := fun j hj => by
    rcases hw4 with h | h
    · exact .inl (h ▸ hj)
    · rw [h] at hj; cases hj; exact .inr rfl
  refine ⟨svs ++ [sv], by rw [List.length_append, hs]; rfl, ?_, ?_, ?_, ?_, m.B0, by omega, hpB, m.ob⟩
  · rw [vts_snoc, hs]
    rw [List.length_append, vts_len] at ho4
    rw [List.length_append]
    exact ho4
  · intro t ht
    rw [vts_snoc, hs] at ht
    rcases List.mem_append.1 ht with ht | ht
    · obtain ⟨h1, h2⟩ := m.el t ht
      refine ⟨keepB _ _ (h1.only ho3 fun j hj => by have := (h2 j hj).1; omega) fun j hj => (h2 j hj).2.2, fun j hj => ⟨(h2 j hj).1, by have := (h2 j hj).2.1; omega, fun e => ?_⟩⟩
      rcases hv4 j e with h | h
      · exact (h2 j hj).2.2 h
      · have := (h2 j hj).2.1; omega
    · rw [List.mem_singleton.1 ht]
      have hne : ∀ j, sv.ownBlock = some j → (Value.slice va k vc).ownBlock ≠ some j := fun j hj e => by have := (m.new e).2; have := (hnw j hj).1; omega
      refine ⟨keepB _ _ (hbi.below hb) hne, fun j hj => ?_⟩
      have h5 := hnw j hj
      exact ⟨by omega, by omega, fun e => by
        rcases hv4 j e with h | h
        · exact hne j hj h
        · omega⟩
  · rw [List.length_append, hs]
    show RO w4 p ob (vtN (k + 1) s1)
    obtain ⟨y, hy, rfl⟩ := hr.below11 hb
    refine ⟨y, hy.keep (hst p (by omega) fun e => by have := (m.new e).1; omega) fun hn j hj => hst j (hy.own_lt hn j hj) fun e => ?_, rfl⟩
    have h7 := m.ob (fun e0 => hn (vtNE11 e0 (k + 1))) j hj
    have := (m.new e).1
    omega
  · have hw0 : Only p w w3 := m.only.trans ho3
    exact ⟨hg4.os.trans hw0.os, hg4.tape.trans hw0.tape, hg4.output.trans hw0.output, Nat.le_trans hw0.size hg4.size, fun j hj hjp => (hst j (Nat.lt_of_lt_of_le hj hw0.size) fun e => by have := (m.new e).1; have := m.B0; omega).trans (hw0.block j hj hjp)⟩

set_option maxHeartbeats 8000000 in
theorem rlistV11 (p : Nat) (ob : Option Nat) (s : RSt) (w : World) (h : RO w p ob s) :
    Calls Tryz.prog 188 #[.pointer (some ⟨p, 0, none⟩), .int .i64 32, .func (.func 116) #[] #[]] w fun r w' => ∃ vv svs, svs.length = (countS s 32).1 ∧ r = .returned vv ∧ VL w' w.heap.size vv (vts (countS s 32).2 svs) ∧ RO w' p ob (vtN (countS s 32).1 (countS s 32).2) ∧ Only p w w' := by
  have HC := Lib.hid (show Calls Tryz.prog 197 #[.pointer (some ⟨p, 0, none⟩), .int .i64 32] w fun r w' => r = .returned (.int .i64 ((countS s 32).1 : Int)) ∧ RO w' p ob (countS s 32).2 ∧ Only p w w' from rcountO_any p ob s 32 (by omega) w h)
  have HLT := Lib.hid h.lt11
  have HM := Lib.hid (cnt_le11 s 32)
  obtain ⟨n, hn⟩ : ∃ n, n = (countS s 32).1 := ⟨_, rfl⟩
  obtain ⟨s1, hs1⟩ : ∃ n, n = (countS s 32).2 := ⟨_, rfl⟩
  rw [← hn] at HC HM ⊢
  rw [← hs1] at HC ⊢
  have hnm : n ≤ 32 := HM.out
  clear h hn hs1 HM
  go_enter Tryz.func188, Tryz.ntmps188
  go_wp2_with (go_at_call 197; (with_reducible refine HC.out.mono ?_); rintro e w1 ⟨rfl, hr, ho⟩; have HR := Lib.hid hr; have HO := Lib.hid ho; clear hr ho)
  have hob := HR.out
  have HM0 := Lib.hid (show LVR w p ob s1 w1.heap.size 0 (.slice none 0 0) w1 from ⟨[], rfl, World.ownsRow_nil _ _ _ _, (fun t ht => by cases ht), hob, HO.out, HO.out.size, Nat.le_refl _, Nat.lt_of_lt_of_le HLT.out HO.out.size, hob.own11⟩)
  obtain ⟨B, hB⟩ : ∃ B, B = w1.heap.size := ⟨_, rfl⟩
  rw [← hB] at HM0
  clear hB hob HR HO HC
  go_loopw [7, 11] (fun y x wr => ∃ k : Nat, k ≤ n ∧ x = .int .i64 (k : Int) ∧ Hid (LVR w p ob s1 B k y wr)) (fun _ x _ => n - (intOf x).toNat)
  case atStart => exact ⟨0, Nat.zero_le _, rfl, HM0⟩
  case round =>
    clear HM0
    obtain ⟨k, hkn, rfl, HM⟩ := hrel
    obtain ⟨svs, hsl, hm⟩ := HM.out
    obtain ⟨va, vc, hvv⟩ := own_slice11 hm.row
    rw [hsl] at hvv
    subst hvv
    by_cases hlt : k < n
    · have hltI : (k : Int) < (n : Int) := by omega
      have M := Lib.hid hm
      have HSL := Lib.hid hsl
      have HRD := Lib.hid (show RO wr p ob (vtN k s1) from by rw [← hsl]; exact hm.rd)
      clear HM hm hsl
      go_upto_region 5 with (first
        | (go_at_call 116; (with_reducible refine (rvote11 p ob _ wr HRD.out).mono ?_); rintro e w2 ⟨sv, rfl, hb, hnw, hr, ho⟩; have HB := Lib.hid hb; have HNW := Lib.hid hnw; have HR2 := Lib.hid hr; have HO2 := Lib.hid ho; have HSV := Lib.hid (show ∃ a n c, sv = .slice a n c from by obtain ⟨a, c, e, _⟩ := hb; exact ⟨_, _, _, e⟩); clear hb hnw hr ho; obtain ⟨T, hT⟩ : ∃ t, t = vtV (vtN k s1) sv := ⟨_, rfl⟩; have HT := Lib.hid hT; obtain ⟨TV, hTV⟩ : ∃ t, t = Value.agg (voC T) := ⟨_, rfl⟩; have HTV := Lib.hid hTV; rw [← hT, ← hTV]; have HTS := Lib.hid (show ∃ a n c, T.sv = .slice a n c from by rw [hT]; exact HSV.out); clear hT hTV)
        | (refine wpList_oneV rfl (.tmp 16) rfl (some 17) rfl T HTS.out TV HTV.out rfl ?_; have HQ := Lib.hid (heap_alloc_new w2 (.cells (voTL T).toArray 93)); have hb2 := below_alloc w2 (.cells (voTL T).toArray 93); have HB2 := Lib.hid hb2; clear hb2; obtain ⟨q, hq⟩ : ∃ q, q = w2.heap.size := ⟨_, rfl⟩; rw [← hq] at HQ ⊢; clear hq; generalize w2.alloc (.cells (voTL T).toArray 93) = w3 at *)
        | (at_builtin; refine wpList_append_row11 (C := voTL) voTL_len 76 93 voZ11 Tryz.underlying76 infoV11 (by kernel_rfl) (by omega) rfl (.tmp 13) (.tmp 17) rfl rfl B (.slice va k vc) (vts s1 svs) rfl (LV_row M.out HSL.out HO2.out HB2.out) q T (voTL_one HTS.out) rfl HQ.out (by rw [vts_len, HSL.out]; omega) (by rw [vts_len, HSL.out]; omega) (Nat.le_trans M.out.B1 (Nat.le_trans HO2.out.size HB2.out.size)) ?_; intro v4 w4 ho4 hg4 hw4; have HR4 := Lib.hid (LV_next M.out HSL.out HO2.out HB2.out (by rw [← HT.out]; exact ho4) hg4 hw4 HB.out HNW.out HR2.out); clear ho4 hg4 hw4))
      go_wp2_with (fail)
      go_roundw
      case rel => exact ⟨k + 1, by omega, by go_num, HR4⟩
      case measure => simp [intOf]; omega
    · obtain rfl : k = n := by omega
      have M := Lib.hid hm
      have HSL := Lib.hid hsl
      clear HM hm hsl
      go_wp2_with (fail)
      go_ret
      have m := M.out
      refine ⟨.slice va k vc, svs, HSL.out, rfl, ⟨?_, fun j hj => Nat.le_trans m.B0 (m.new hj).1, fun t ht => ⟨(m.el t ht).1, fun j hj => Nat.le_trans m.B0 ((m.el t ht).2 j hj).1⟩⟩, ?_, m.only⟩
      · exact rows_of_own (C := voTL) voTL_len (by rw [vts_len]; exact m.row) (by rw [vts_len, HSL.out]; unfold maxLen; omega)
      · have := m.rd
        rw [HSL.out] at this
        exact this
structure LTM (w : World) (p : Nat) (ob : Option Nat) (s1 : RSt) (B : Nat) (vv : Value) (svs : List Value) (wr : World) : Prop where
  row : wr.ownsRow B 34 1 vv svs.length ((txs s1 svs).flatMap tbTL)
  el : ∀ t ∈ txs s1 svs, BytesIn wr t.bv t.bs ∧ (∀ j, t.bv.ownBlock = some j → B ≤ j ∧ j < wr.heap.size ∧ vv.ownBlock ≠ some j)
  rd : RO wr p ob (txN svs.length s1)
  only : Only p w wr
  B0 : w.heap.size ≤ B
  B1 : B ≤ wr.heap.size
  pB : p < B
  ob : s1.1 ≠ [] → ∀ k, ob = some k → k < B
theorem LTM.new {w : World} {p : Nat} {ob : Option Nat} {s1 : RSt} {B : Nat} {vv : Value} {svs : List Value} {wr : World} (m : LTM w p ob s1 B vv svs wr) {k : Nat} (h : vv.ownBlock = some k) : B ≤ k ∧ k < wr.heap.size := m.row.lt k h
def LTR (w : World) (p : Nat) (ob : Option Nat) (s1 : RSt) (B : Nat) (k : Nat) (vv : Value) (wr : World) : Prop := ∃ svs, svs.length = k ∧ LTM w p ob s1 B vv svs wr
theorem infoT11 : (Tryz.prog.info? 34).map (fun i => (i.zero, i.size, i.bytes)) = some (some tbZ11, 1, 24) := by kernel_rfl
theorem tbTL_len (t : Tb) : (tbTL t).length = 1 := by rfl
theorem tb_fill11 (t : Tb) (ht : ∃ a n c, t.bv = .slice a n c) : Instr.fill (fun i => some (i * 1, 1)) ((Array.range (1 * 1)).map (tbZ11.cells[· % tbZ11.cells.size]!)) [(0, t.bv)] = some (tbTL t).toArray := by
  obtain ⟨bv, bs⟩ := t
  obtain ⟨a, n, c, rfl⟩ := ht
  kernel_rfl
theorem tbTL_one {t : Tb} (ht : ∃ a n c, t.bv = .slice a n c) : ∀ u ∈ tbTL t, u.oneCell' = true := by
  obtain ⟨a, n, c, h⟩ := ht
  intro u hu
  rw [show tbTL t = [t.bv] from rfl, List.mem_singleton] at hu
  rw [hu, h]; rfl
theorem wpList_oneT {w : World} {ops : Array Oper} {rest : List Oper} {o : Oper} {a : Act} {Q : Exit → Act → World → Prop} (hgd : o.guard = none) (x : Operand) (ho : o.op = .buildSlice 75 1 #[(0, x)]) (d : Option Tmp) (hd : o.dst = d) (t : Tb) (ht : ∃ a n c, t.bv = .slice a n c) (v : Value) (hv : v = t.bv) (hx : a.eval x = v)
    (h : wpList Tryz.prog ops Q rest (a.put d (.slice (some ⟨w.heap.size, 0, none⟩) 1 1)) (w.alloc (.cells (tbTL t).toArray 34))) : wpList Tryz.prog ops Q (o :: rest) a w := by
  subst hd hv
  refine wpList_plain hgd fun K hK => ?_
  obtain ⟨i0, hi, hz0, hz1, hz2⟩ := info_parts infoT11
  refine wp_buildSlice 75 34 1 #[(0, x)] ho (tbTL t).toArray i0 _ Tryz.underlying75 hi hz0 (by rw [hz1]; decide) (by rw [hz1]; decide) ?_ (hK _ _ h)
  rw [hz1]
  simpa [hx] using tb_fill11 t ht
theorem LT_row {w : World} {p : Nat} {ob : Option Nat} {s1 : RSt} {B : Nat} {va : Option Addr} {k vc : Nat} {svs : List Value} {wr w2 w3 : World} (m : LTM w p ob s1 B (.slice va k vc) svs wr) (hs : svs.length = k) (ho : Only p wr w2) (hb : Below w2.heap.size w2 w3) : w3.ownsRow B 34 1 (.slice va k vc) (txs s1 svs).length ((txs s1 svs).flatMap tbTL) := by
  rw [txs_len]
  refine own_stay11 m.row fun j hj => ?_
  have := m.new hj
  have := m.pB
  rw [hb.block j (Nat.lt_of_lt_of_le (m.new hj).2 ho.size), ho.block j (m.new hj).2 (by omega)]
theorem LT_next {w : World} {p : Nat} {ob : Option Nat} {s1 : RSt} {B : Nat} {va : Option Addr} {k vc : Nat} {svs : List Value} {wr w2 w3 w4 : World} {sv v4 : Value} (m : LTM w p ob s1 B (.slice va k vc) svs wr) (hs : svs.length = k) (ho : Only p wr w2) (hb : Below w2.heap.size w2 w3)
    (ho4 : w4.ownsRow B 34 1 v4 (txs s1 svs ++ [(⟨sv, (partS (txN k s1) 65536).1⟩ : Tb)]).length ((txs s1 svs ++ [(⟨sv, (partS (txN k s1) 65536).1⟩ : Tb)]).flatMap tbTL)) (hg4 : w3.grownBy w4 (Value.slice va k vc).ownBlock) (hw4 : v4.ownBlock = (Value.slice va k vc).ownBlock ∨ v4.ownBlock = some w3.heap.size)
    (hbi : BytesIn w2 sv (partS (txN k s1) 65536).1) (hnw : ∀ j, sv.ownBlock = some j → wr.heap.size ≤ j ∧ j < w2.heap.size) (hr : RO w2 p ob (partS (txN k s1) 65536).2) : LTR w p ob s1 B (k + 1) v4 w4 := by
  have hpB := m.pB
  have hB1 := m.B1
  have hs1 := ho.size
  have hs2 := hb.size
  have hs3 := hg4.size
  have ho3 : Only p wr w3 := ho.trans (Only.of_below hb)
  have hst : ∀ j, j < w3.heap.size → (Value.slice va k vc).ownBlock ≠ some j → w4.heap[j]? = w3.heap[j]? := fun j hj hne => hg4.block j hj (fun e => hne e.symm)
  have keepB : ∀ (u : Value) (xs : List Int), BytesIn w3 u xs → (∀ j, u.ownBlock = some j → (Value.slice va k vc).ownBlock ≠ some j) → BytesIn w4 u xs := fun u xs hu hne => by
    obtain ⟨a, c, rfl, h1, h2, h3⟩ := hu
    refine ⟨a, c, rfl, h1, h2, h3.imp id ?_⟩
    rintro ⟨ab, ao, rfl, h5⟩
    refine ⟨ab, ao, rfl, fun i x hi => ?_⟩
    have h4 := h5 i x hi
    rw [← h4]
    exact World.cell?_of_block (hst ab (World.block_lt_of_cell? _ _ h4) (hne ab rfl))
  have hv4 : ∀ j, v4.ownBlock = some j → (Value.slice va k vc).ownBlock = some j ∨ j = w3.heap.size := fun j hj => by
    rcases hw4 with h | h
    · exact .inl (h ▸ hj)
    · rw [h] at hj; cases hj; exact .inr rfl
  refine ⟨svs ++ [sv], by rw [List.length_append, hs]; rfl, ?_, ?_, ?_, ?_, m.B0, by omega, hpB, m.ob⟩
  · rw [txs_snoc, hs]
    rw [List.length_append, txs_len] at ho4
    rw [List.length_append]
    exact ho4
  · intro t ht
    rw [txs_snoc, hs] at ht
    rcases List.mem_append.1 ht with ht | ht
    · obtain ⟨h1, h2⟩ := m.el t ht
      refine ⟨keepB _ _ (h1.only ho3 fun j hj => by have := (h2 j hj).1; omega) fun j hj => (h2 j hj).2.2, fun j hj => ⟨(h2 j hj).1, by have := (h2 j hj).2.1; omega, fun e => ?_⟩⟩
      rcases hv4 j e with h | h
      · exact (h2 j hj).2.2 h
      · have := (h2 j hj).2.1; omega
    · rw [List.mem_singleton.1 ht]
      have hne : ∀ j, sv.ownBlock = some j → (Value.slice va k vc).ownBlock ≠ some j := fun j hj e => by have := (m.new e).2; have := (hnw j hj).1; omega
      refine ⟨keepB _ _ (hbi.below hb) hne, fun j hj => ?_⟩
      have h5 := hnw j hj
      exact ⟨by omega, by omega, fun e => by
        rcases hv4 j e with h | h
        · exact hne j hj h
        · omega⟩
  · rw [List.length_append, hs]
    show RO w4 p ob (txN (k + 1) s1)
    obtain ⟨y, hy, rfl⟩ := hr.below11 hb
    refine ⟨y, hy.keep (hst p (by omega) fun e => by have := (m.new e).1; omega) fun hn j hj => hst j (hy.own_lt hn j hj) fun e => ?_, rfl⟩
    have h7 := m.ob (fun e0 => hn (txNE11 e0 (k + 1))) j hj
    have := (m.new e).1
    omega
  · have hw0 : Only p w w3 := m.only.trans ho3
    exact ⟨hg4.os.trans hw0.os, hg4.tape.trans hw0.tape, hg4.output.trans hw0.output, Nat.le_trans hw0.size hg4.size, fun j hj hjp => (hst j (Nat.lt_of_lt_of_le hj hw0.size) fun e => by have := (m.new e).1; have := m.B0; omega).trans (hw0.block j hj hjp)⟩

set_option maxHeartbeats 8000000 in
theorem rlistT11 (p : Nat) (ob : Option Nat) (s : RSt) (w : World) (h : RO w p ob s) :
    Calls Tryz.prog 190 #[.pointer (some ⟨p, 0, none⟩), .int .i64 64, .func (.func 191) #[] #[]] w fun r w' => ∃ vv svs, svs.length = (countS s 64).1 ∧ r = .returned vv ∧ TL w' w.heap.size vv (txs (countS s 64).2 svs) ∧ RO w' p ob (txN (countS s 64).1 (countS s 64).2) ∧ Only p w w' := by
  have HC := Lib.hid (show Calls Tryz.prog 197 #[.pointer (some ⟨p, 0, none⟩), .int .i64 64] w fun r w' => r = .returned (.int .i64 ((countS s 64).1 : Int)) ∧ RO w' p ob (countS s 64).2 ∧ Only p w w' from rcountO_any p ob s 64 (by omega) w h)
  have HLT := Lib.hid h.lt11
  have HM := Lib.hid (cnt_le11 s 64)
  obtain ⟨n, hn⟩ : ∃ n, n = (countS s 64).1 := ⟨_, rfl⟩
  obtain ⟨s1, hs1⟩ : ∃ n, n = (countS s 64).2 := ⟨_, rfl⟩
  rw [← hn] at HC HM ⊢
  rw [← hs1] at HC ⊢
  have hnm : n ≤ 64 := HM.out
  clear h hn hs1 HM
  go_enter Tryz.func190, Tryz.ntmps190
  go_wp2_with (go_at_call 197; (with_reducible refine HC.out.mono ?_); rintro e w1 ⟨rfl, hr, ho⟩; have HR := Lib.hid hr; have HO := Lib.hid ho; clear hr ho)
  have hob := HR.out
  have HM0 := Lib.hid (show LTR w p ob s1 w1.heap.size 0 (.slice none 0 0) w1 from ⟨[], rfl, World.ownsRow_nil _ _ _ _, (fun t ht => by cases ht), hob, HO.out, HO.out.size, Nat.le_refl _, Nat.lt_of_lt_of_le HLT.out HO.out.size, hob.own11⟩)
  obtain ⟨B, hB⟩ : ∃ B, B = w1.heap.size := ⟨_, rfl⟩
  rw [← hB] at HM0
  clear hB hob HR HO HC
  go_loopw [7, 11] (fun y x wr => ∃ k : Nat, k ≤ n ∧ x = .int .i64 (k : Int) ∧ Hid (LTR w p ob s1 B k y wr)) (fun _ x _ => n - (intOf x).toNat)
  case atStart => exact ⟨0, Nat.zero_le _, rfl, HM0⟩
  case round =>
    clear HM0
    obtain ⟨k, hkn, rfl, HM⟩ := hrel
    obtain ⟨svs, hsl, hm⟩ := HM.out
    obtain ⟨va, vc, hvv⟩ := own_slice11 hm.row
    rw [hsl] at hvv
    subst hvv
    by_cases hlt : k < n
    · have hltI : (k : Int) < (n : Int) := by omega
      have M := Lib.hid hm
      have HSL := Lib.hid hsl
      have HRD := Lib.hid (show RO wr p ob (txN k s1) from by rw [← hsl]; exact hm.rd)
      clear HM hm hsl
      go_upto_region 5 with (first
        | (go_at_call 191; (with_reducible refine (rtx11 p ob _ wr HRD.out).mono ?_); rintro e w2 ⟨sv, rfl, hb, hnw, hr, ho⟩; have HB := Lib.hid hb; have HNW := Lib.hid hnw; have HR2 := Lib.hid hr; have HO2 := Lib.hid ho; have HSV := Lib.hid (show ∃ a n c, sv = .slice a n c from by obtain ⟨a, c, e, _⟩ := hb; exact ⟨_, _, _, e⟩); clear hb hnw hr ho; obtain ⟨T, hT⟩ : ∃ t, t = (⟨sv, (partS (txN k s1) 65536).1⟩ : Tb) := ⟨_, rfl⟩; have HT := Lib.hid hT; obtain ⟨TV, hTV⟩ : ∃ t, t = T.bv := ⟨_, rfl⟩; have HTV := Lib.hid hTV; rw [show sv = TV from by rw [hTV, hT]]; have HTS := Lib.hid (show ∃ a n c, T.bv = .slice a n c from by rw [hT]; exact HSV.out); clear hT hTV)
        | (refine wpList_oneT rfl (.tmp 16) rfl (some 17) rfl T HTS.out TV HTV.out rfl ?_; have HQ := Lib.hid (heap_alloc_new w2 (.cells (tbTL T).toArray 34)); have hb2 := below_alloc w2 (.cells (tbTL T).toArray 34); have HB2 := Lib.hid hb2; clear hb2; obtain ⟨q, hq⟩ : ∃ q, q = w2.heap.size := ⟨_, rfl⟩; rw [← hq] at HQ ⊢; clear hq; generalize w2.alloc (.cells (tbTL T).toArray 34) = w3 at *)
        | (at_builtin; refine wpList_append_row11 (C := tbTL) tbTL_len 75 34 tbZ11 Tryz.underlying75 infoT11 (by kernel_rfl) (by omega) rfl (.tmp 13) (.tmp 17) rfl rfl B (.slice va k vc) (txs s1 svs) rfl (LT_row M.out HSL.out HO2.out HB2.out) q T (tbTL_one HTS.out) rfl HQ.out (by rw [txs_len, HSL.out]; omega) (by rw [txs_len, HSL.out]; omega) (Nat.le_trans M.out.B1 (Nat.le_trans HO2.out.size HB2.out.size)) ?_; intro v4 w4 ho4 hg4 hw4; have HR4 := Lib.hid (LT_next M.out HSL.out HO2.out HB2.out (by rw [← HT.out]; exact ho4) hg4 hw4 HB.out HNW.out HR2.out); clear ho4 hg4 hw4))
      go_wp2_with (fail)
      go_roundw
      case rel => exact ⟨k + 1, by omega, by go_num, HR4⟩
      case measure => simp [intOf]; omega
    · obtain rfl : k = n := by omega
      have M := Lib.hid hm
      have HSL := Lib.hid hsl
      clear HM hm hsl
      go_wp2_with (fail)
      go_ret
      have m := M.out
      refine ⟨.slice va k vc, svs, HSL.out, rfl, ⟨?_, fun j hj => Nat.le_trans m.B0 (m.new hj).1, fun t ht => ⟨(m.el t ht).1, fun j hj => Nat.le_trans m.B0 ((m.el t ht).2 j hj).1⟩⟩, ?_, m.only⟩
      · exact rows_of_own (C := tbTL) tbTL_len (by rw [txs_len]; exact m.row) (by rw [txs_len, HSL.out]; unfold maxLen; omega)
      · have := m.rd
        rw [HSL.out] at this
        exact this
def hdT0 (s : RSt) : RSt := (partS s 64).2
def hdT1 (s : RSt) : RSt := (intS (hdT0 s)).2
def hdT2 (s : RSt) : RSt := (intS (hdT1 s)).2
def hdT3 (s : RSt) : RSt := (hashS (hdT2 s)).2
def hdT4 (s : RSt) : RSt := (hashS (hdT3 s)).2
def hdT5 (s : RSt) : RSt := (hashS (hdT4 s)).2
def hdT6 (s : RSt) : RSt := (hashS (hdT5 s)).2
def hdT7 (s : RSt) : RSt := (hashS (hdT6 s)).2
/-- behind a header -/
def hdR (s : RSt) : RSt := (intS (hdT7 s)).2
def hdV (s : RSt) : Array Value := hdD (strOfNums (partS s 64).1) (intS (hdT0 s)).1 (intS (hdT1 s)).1 (hashS (hdT2 s)).1 (hashS (hdT3 s)).1 (hashS (hdT4 s)).1 (hashS (hdT5 s)).1 (hashS (hdT6 s)).1 (intS (hdT7 s)).1
def cmT (s : RSt) : RSt := (hashS (intS (intS s).2).2).2
def cmV (s : RSt) : Cm := ⟨(intS s).1, (intS (intS s).2).1, (hashS (intS (intS s).2).2).1⟩
/-- behind a commit -/
def cmR (s : RSt) : RSt := vtN (countS (cmT s) 32).1 (countS (cmT s) 32).2
def bkT (s : RSt) : RSt := txN (countS (hdR s) 64).1 (countS (hdR s) 64).2
theorem hdE11 {s : RSt} (h : s.1 = []) : (hdR s).1 = [] := intE11 (hashE11 (hashE11 (hashE11 (hashE11 (hashE11 (intE11 (intE11 (partE11 h))))))))
theorem cmE11 {s : RSt} (h : s.1 = []) : (cmR s).1 = [] := vtNE11 (cntE11 (hashE11 (intE11 (intE11 h)))) _
theorem bkE11 {s : RSt} (h : s.1 = []) : (bkT s).1 = [] := txNE11 (cntE11 (hdE11 h)) _
set_option maxHeartbeats 4000000 in
theorem rheader11 (p : Nat) (ob : Option Nat) (s : RSt) (w : World) (h : RO w p ob s) :
    Calls Tryz.prog 122 #[.pointer (some ⟨p, 0, none⟩)] w fun r w' => r = .returned (.agg (hdV s)) ∧ RO w' p ob (hdR s) ∧ Only p w w' := by
  have HLT := Lib.hid h.lt11
  have HOB := Lib.hid h.own11
  have HR0' := Lib.hid (fun o => h.below11 (below_alloc w o))
  clear h
  go_enter Tryz.func122, Tryz.ntmps122
  go_upto_region 1 with (fail)
  generalize hA : World.alloc w _ = w1
  obtain ⟨cz, hcz, hq⟩ : ∃ cz : Array Value, cz.size = 164 ∧ w1.heap[w.heap.size]? = some (.cells cz 74 (0, 0)) := ⟨_, by kernel_rfl, by rw [← hA]; exact heap_alloc_new _ _⟩
  have HCZ := Lib.hid hcz
  have HQ := Lib.hid hq
  have HR0 := Lib.hid (show RO w1 p ob s from by rw [← hA]; exact HR0'.out _)
  have HO0 := Lib.hid (show Only p w w1 from by rw [← hA]; exact Only.of_below (below_alloc _ _))
  clear hA hcz hq HR0'
  obtain ⟨q, hqe⟩ : ∃ q, q = w.heap.size := ⟨_, rfl⟩
  have HQE := Lib.hid hqe
  rw [← hqe] at HQ ⊢
  clear hqe
  go_wp2_with (first
    | (go_at_call 189; (with_reducible refine (rtextO_any p ob _ 64 w1 HR0.out (by omega) (by omega)).mono ?_); rintro e w2 ⟨rfl, hr, ho⟩; have HR1 := Lib.hid hr; have HO1 := Lib.hid (HO0.out.trans ho); replace HQ := Lib.hid ((ho.block q (Array.getElem?_eq_some_iff.1 HQ.out).1 (by have := HLT.out; have := HQE.out; omega)).trans HQ.out); clear hr ho)
    | (go_at_call 185; (with_reducible refine (intO_any p ob _ w2 HR1.out).mono ?_); rintro e w3 ⟨rfl, hr, ho⟩; have HR2 := Lib.hid hr; have HO2 := Lib.hid (HO1.out.trans ho); replace HQ := Lib.hid ((ho.block q (Array.getElem?_eq_some_iff.1 HQ.out).1 (by have := HLT.out; have := HQE.out; omega)).trans HQ.out); clear hr ho)
    | (go_at_call 185; (with_reducible refine (intO_any p ob _ w3 HR2.out).mono ?_); rintro e w4 ⟨rfl, hr, ho⟩; have HR3 := Lib.hid hr; have HO3 := Lib.hid (HO2.out.trans ho); replace HQ := Lib.hid ((ho.block q (Array.getElem?_eq_some_iff.1 HQ.out).1 (by have := HLT.out; have := HQE.out; omega)).trans HQ.out); clear hr ho)
    | (go_at_call 186; (with_reducible refine (hashO11 p ob _ w4 HR3.out).mono ?_); rintro e w5 ⟨rfl, hr, ho⟩; have HR4 := Lib.hid hr; have HO4 := Lib.hid (HO3.out.trans ho); replace HQ := Lib.hid ((ho.block q (Array.getElem?_eq_some_iff.1 HQ.out).1 (by have := HLT.out; have := HQE.out; omega)).trans HQ.out); clear hr ho)
    | (go_at_call 186; (with_reducible refine (hashO11 p ob _ w5 HR4.out).mono ?_); rintro e w6 ⟨rfl, hr, ho⟩; have HR5 := Lib.hid hr; have HO5 := Lib.hid (HO4.out.trans ho); replace HQ := Lib.hid ((ho.block q (Array.getElem?_eq_some_iff.1 HQ.out).1 (by have := HLT.out; have := HQE.out; omega)).trans HQ.out); clear hr ho)
    | (go_at_call 186; (with_reducible refine (hashO11 p ob _ w6 HR5.out).mono ?_); rintro e w7 ⟨rfl, hr, ho⟩; have HR6 := Lib.hid hr; have HO6 := Lib.hid (HO5.out.trans ho); replace HQ := Lib.hid ((ho.block q (Array.getElem?_eq_some_iff.1 HQ.out).1 (by have := HLT.out; have := HQE.out; omega)).trans HQ.out); clear hr ho)
    | (go_at_call 186; (with_reducible refine (hashO11 p ob _ w7 HR6.out).mono ?_); rintro e w8 ⟨rfl, hr, ho⟩; have HR7 := Lib.hid hr; have HO7 := Lib.hid (HO6.out.trans ho); replace HQ := Lib.hid ((ho.block q (Array.getElem?_eq_some_iff.1 HQ.out).1 (by have := HLT.out; have := HQE.out; omega)).trans HQ.out); clear hr ho)
    | (go_at_call 186; (with_reducible refine (hashO11 p ob _ w8 HR7.out).mono ?_); rintro e w9 ⟨rfl, hr, ho⟩; have HR8 := Lib.hid hr; have HO8 := Lib.hid (HO7.out.trans ho); replace HQ := Lib.hid ((ho.block q (Array.getElem?_eq_some_iff.1 HQ.out).1 (by have := HLT.out; have := HQE.out; omega)).trans HQ.out); clear hr ho)
    | (go_at_call 185; (with_reducible refine (intO_any p ob _ w9 HR8.out).mono ?_); rintro e w10 ⟨rfl, hr, ho⟩; have HR9 := Lib.hid hr; have HO9 := Lib.hid (HO8.out.trans ho); replace HQ := Lib.hid ((ho.block q (Array.getElem?_eq_some_iff.1 HQ.out).1 (by have := HLT.out; have := HQE.out; omega)).trans HQ.out); clear hr ho; obtain ⟨CV, hCV⟩ : ∃ x, x = hdV s := ⟨_, rfl⟩; have HBU := Lib.hid ((hd_built _ _ _ _ _ _ _ _ _).trans (congrArg some hCV.symm)); have HOC := Lib.hid (show CV.all (·.oneCell') = true from by rw [hCV]; exact hdD_one11 _ _ _ _ _ _ _ _ _); have HZC := Lib.hid ((congrArg Array.size hCV).trans (hdD_size _ _ _ _ _ _ _ _ _)); have HCV := Lib.hid hCV; clear hCV)
    | (refine wpList_buildTo rfl 74 #[(0, .tmp 4), (1, .tmp 6), (2, .tmp 8), (3, .tmp 10), (4, .tmp 12), (5, .tmp 14), (6, .tmp 16), (7, .tmp 18), (8, .tmp 20)] rfl (some 21) rfl CV (by refine Eq.trans (congrArg (Tryz.prog.built 74) ?_) HBU.out; kernel_rfl) ?_)
    | (refine wpList_store_row rfl 74 (.tmp 2) (.tmp 21) rfl q CV rfl rfl 74 _ HQ.out (by rw [HZC.out]; kernel_rfl) (by rw [HZC.out, HCZ.out]) HOC.out ?_))
  refine bodyPost_ret (results_cell_row rfl _ _ q 74 CV (0, 0) _ rfl (setRow_heap _ _ _ _ _ _ HQ.out) Tryz.underlying74 rfl (by rw [HZC.out]; kernel_rfl)) rfl ?_
  have hpq : p ≠ q := by have := HLT.out; have := HQE.out; omega
  have hoq := only_setRow11 w10 q CV
  have hwq : w.heap.size ≤ q := by rw [HQE.out]; exact Nat.le_refl _
  have hHO : Only p w (w10.setRow q CV) := HO9.out.behind hwq CV
  have hkq : ((hdR s).1) ≠ [] → ∀ k, ob = some k → k ≠ q := fun hn k hk => by
    have := HOB.out (fun e => hn (hdE11 e)) k hk
    have := HQE.out
    omega
  exact ⟨by rw [HCV.out], HR9.out.stay11 hoq hpq hkq, hHO⟩
set_option maxHeartbeats 4000000 in
theorem rcommit11 (p : Nat) (ob : Option Nat) (s : RSt) (w : World) (h : RO w p ob s) :
    Calls Tryz.prog 119 #[.pointer (some ⟨p, 0, none⟩)] w fun r w' => ∃ vv svs, svs.length = (countS (cmT s) 32).1 ∧ r = .returned (.agg (cmC (cmV s) vv)) ∧ VL w' w.heap.size vv (vts (countS (cmT s) 32).2 svs) ∧ RO w' p ob (cmR s) ∧ Only p w w' := by
  have HLT := Lib.hid h.lt11
  have HOB := Lib.hid h.own11
  have HR0' := Lib.hid (fun o => h.below11 (below_alloc w o))
  clear h
  go_enter Tryz.func119, Tryz.ntmps119
  go_upto_region 1 with (fail)
  generalize hA : World.alloc w _ = w1
  obtain ⟨cz, hcz, hq⟩ : ∃ cz : Array Value, cz.size = 35 ∧ w1.heap[w.heap.size]? = some (.cells cz 78 (0, 0)) := ⟨_, by kernel_rfl, by rw [← hA]; exact heap_alloc_new _ _⟩
  have HCZ := Lib.hid hcz
  have HQ := Lib.hid hq
  have HR0 := Lib.hid (show RO w1 p ob s from by rw [← hA]; exact HR0'.out _)
  have HO0 := Lib.hid (show Only p w w1 from by rw [← hA]; exact Only.of_below (below_alloc _ _))
  clear hA hcz hq HR0'
  obtain ⟨q, hqe⟩ : ∃ q, q = w.heap.size := ⟨_, rfl⟩
  have HQE := Lib.hid hqe
  rw [← hqe] at HQ ⊢
  clear hqe
  go_wp2_with (first
    | (go_at_call 185; (with_reducible refine (intO_any p ob _ w1 HR0.out).mono ?_); rintro e w2 ⟨rfl, hr, ho⟩; have HR1 := Lib.hid hr; have HO1 := Lib.hid (HO0.out.trans ho); replace HQ := Lib.hid ((ho.block q (Array.getElem?_eq_some_iff.1 HQ.out).1 (by have := HLT.out; have := HQE.out; omega)).trans HQ.out); clear hr ho)
    | (go_at_call 185; (with_reducible refine (intO_any p ob _ w2 HR1.out).mono ?_); rintro e w3 ⟨rfl, hr, ho⟩; have HR2 := Lib.hid hr; have HO2 := Lib.hid (HO1.out.trans ho); replace HQ := Lib.hid ((ho.block q (Array.getElem?_eq_some_iff.1 HQ.out).1 (by have := HLT.out; have := HQE.out; omega)).trans HQ.out); clear hr ho)
    | (go_at_call 186; (with_reducible refine (hashO11 p ob _ w3 HR2.out).mono ?_); rintro e w4 ⟨rfl, hr, ho⟩; have HR3 := Lib.hid hr; have HO3 := Lib.hid (HO2.out.trans ho); replace HQ := Lib.hid ((ho.block q (Array.getElem?_eq_some_iff.1 HQ.out).1 (by have := HLT.out; have := HQE.out; omega)).trans HQ.out); clear hr ho)
    | (go_at_call 188; (with_reducible refine (rlistV11 p ob _ w4 HR3.out).mono ?_); rintro e w5 ⟨vv, svs, hvl, rfl, hv, hr, ho⟩; have HQL := Lib.hid (show q < w4.heap.size from (Array.getElem?_eq_some_iff.1 HQ.out).1); have HR4 := Lib.hid hr; have HO4 := Lib.hid (HO3.out.trans ho); replace HQ := Lib.hid ((ho.block q (Array.getElem?_eq_some_iff.1 HQ.out).1 (by have := HLT.out; have := HQE.out; omega)).trans HQ.out); clear hr ho; have HVL := Lib.hid hv; have HSL := Lib.hid hvl; obtain ⟨va, vc, rfl, -, -⟩ := hv.rows.len; clear hv hvl; obtain ⟨CV, hCV⟩ : ∃ x, x = cmC (cmV s) (.slice va (vts (countS (cmT s) 32).2 svs).length vc) := ⟨_, rfl⟩; have HBU := Lib.hid ((cm_built _ _ _ _ _ _).trans (congrArg some hCV.symm)); have HOC := Lib.hid (show CV.all (·.oneCell') = true from by rw [hCV]; exact cmC_one11 _ _ _ _); have HZC := Lib.hid ((congrArg Array.size hCV).trans (cmC_size _ _)); have HCV := Lib.hid hCV; clear hCV)
    | (refine wpList_buildTo rfl 78 #[(0, .tmp 4), (1, .tmp 6), (2, .tmp 8), (3, .tmp 10)] rfl (some 11) rfl CV (by refine Eq.trans (congrArg (Tryz.prog.built 78) ?_) HBU.out; kernel_rfl) ?_)
    | (refine wpList_store_row rfl 78 (.tmp 2) (.tmp 11) rfl q CV rfl rfl 78 _ HQ.out (by rw [HZC.out]; kernel_rfl) (by rw [HZC.out, HCZ.out]) HOC.out ?_))
  refine bodyPost_ret (results_cell_row rfl _ _ q 78 CV (0, 0) _ rfl (setRow_heap _ _ _ _ _ _ HQ.out) Tryz.underlying78 rfl (by rw [HZC.out]; kernel_rfl)) rfl ?_
  have hpq : p ≠ q := by have := HLT.out; have := HQE.out; omega
  have hoq := only_setRow11 w5 q CV
  have hwq : w.heap.size ≤ q := by rw [HQE.out]; exact Nat.le_refl _
  have hHO : Only p w (w5.setRow q CV) := HO4.out.behind hwq CV
  have hkq : ((cmR s).1) ≠ [] → ∀ k, ob = some k → k ≠ q := fun hn k hk => by
    have := HOB.out (fun e => hn (cmE11 e)) k hk
    have := HQE.out
    omega
  exact ⟨_, svs, HSL.out, by rw [HCV.out]; rfl, (HVL.out.only hoq HQL.out).mono (by have := HQL.out; omega), HR4.out.stay11 hoq hpq hkq, hHO⟩
set_option maxHeartbeats 4000000 in
theorem rblock11 (p : Nat) (ob : Option Nat) (s : RSt) (w : World) (h : RO w p ob s) :
    Calls Tryz.prog 125 #[.pointer (some ⟨p, 0, none⟩)] w fun r w' => ∃ tv tvs vv svs, tvs.length = (countS (hdR s) 64).1 ∧ svs.length = (countS (cmT (bkT s)) 32).1 ∧ r = .returned (.agg (bkD (hdV s) tv (cmC (cmV (bkT s)) vv))) ∧ TL w' w.heap.size tv (txs (countS (hdR s) 64).2 tvs) ∧ VL w' w.heap.size vv (vts (countS (cmT (bkT s)) 32).2 svs) ∧ RO w' p ob (cmR (bkT s)) ∧ Only p w w' := by
  have HLT := Lib.hid h.lt11
  have HOB := Lib.hid h.own11
  have HR0' := Lib.hid (fun o => h.below11 (below_alloc w o))
  clear h
  go_enter Tryz.func125, Tryz.ntmps125
  go_upto_region 1 with (fail)
  generalize hA : World.alloc w _ = w1
  obtain ⟨cz, hcz, hq⟩ : ∃ cz : Array Value, cz.size = 200 ∧ w1.heap[w.heap.size]? = some (.cells cz 80 (0, 0)) := ⟨_, by kernel_rfl, by rw [← hA]; exact heap_alloc_new _ _⟩
  have HCZ := Lib.hid hcz
  have HQ := Lib.hid hq
  have HR0 := Lib.hid (show RO w1 p ob s from by rw [← hA]; exact HR0'.out _)
  have HO0 := Lib.hid (show Only p w w1 from by rw [← hA]; exact Only.of_below (below_alloc _ _))
  clear hA hcz hq HR0'
  obtain ⟨q, hqe⟩ : ∃ q, q = w.heap.size := ⟨_, rfl⟩
  have HQE := Lib.hid hqe
  rw [← hqe] at HQ ⊢
  clear hqe
  go_wp2_with (first
    | (go_at_call 122; (with_reducible refine (rheader11 p ob _ w1 HR0.out).mono ?_); rintro e w2 ⟨rfl, hr, ho⟩; have HR1 := Lib.hid hr; have HO1 := Lib.hid (HO0.out.trans ho); replace HQ := Lib.hid ((ho.block q (Array.getElem?_eq_some_iff.1 HQ.out).1 (by have := HLT.out; have := HQE.out; omega)).trans HQ.out); clear hr ho)
    | (go_at_call 190; (with_reducible refine (rlistT11 p ob _ w2 HR1.out).mono ?_); rintro e w3 ⟨tv, tvs, htl, rfl, ht, hr, ho⟩; have HQL := Lib.hid (show q < w2.heap.size from (Array.getElem?_eq_some_iff.1 HQ.out).1); have HPL := Lib.hid (show p < w2.heap.size from HR1.out.lt11); have HR2 := Lib.hid hr; have HO2 := Lib.hid (HO1.out.trans ho); replace HQ := Lib.hid ((ho.block q (Array.getElem?_eq_some_iff.1 HQ.out).1 (by have := HLT.out; have := HQE.out; omega)).trans HQ.out); clear hr ho; have HTL := Lib.hid ht; have HTS := Lib.hid htl; clear ht htl)
    | (go_at_call 119; (with_reducible refine (rcommit11 p ob _ w3 HR2.out).mono ?_); rintro e w4 ⟨vv, svs, hvl, rfl, hv, hr, ho⟩; replace HTL := Lib.hid (HTL.out.only ho HPL.out); have HQ3 := Lib.hid (show q < w3.heap.size from (Array.getElem?_eq_some_iff.1 HQ.out).1); have HR3 := Lib.hid hr; have HO3 := Lib.hid (HO2.out.trans ho); replace HQ := Lib.hid ((ho.block q (Array.getElem?_eq_some_iff.1 HQ.out).1 (by have := HLT.out; have := HQE.out; omega)).trans HQ.out); clear hr ho; have HVL := Lib.hid hv; have HSL := Lib.hid hvl; obtain ⟨va, vc, rfl, -, -⟩ := hv.rows.len; obtain ⟨ta, tc, rfl, -, -⟩ := HTL.out.rows.len; clear hv hvl; obtain ⟨CV, hCV⟩ : ∃ x, x = bkD (hdV s) (.slice ta (txs (countS (hdR s) 64).2 tvs).length tc) (cmC (cmV (bkT s)) (.slice va (vts (countS (cmT (bkT s)) 32).2 svs).length vc)) := ⟨_, rfl⟩; have HBU := Lib.hid ((bk_built _ _ _ _ _ _ _ _ _ _ _ _ _ _ _ _ _ _).trans (congrArg some hCV.symm)); have HOC := Lib.hid (show CV.all (·.oneCell') = true from by rw [hCV]; exact bkD_one (hdD_one11 _ _ _ _ _ _ _ _ _) (cmC_one11 _ _ _ _)); have HZC := Lib.hid ((congrArg Array.size hCV).trans (bkD_size (hdD_size _ _ _ _ _ _ _ _ _) (cmC_size _ _))); have HCV := Lib.hid hCV; clear hCV)
    | (refine wpList_buildTo rfl 80 #[(0, .tmp 4), (1, .tmp 6), (2, .tmp 8)] rfl (some 9) rfl CV (by refine Eq.trans (congrArg (Tryz.prog.built 80) ?_) HBU.out; kernel_rfl) ?_)
    | (refine wpList_store_row rfl 80 (.tmp 2) (.tmp 9) rfl q CV rfl rfl 80 _ HQ.out (by rw [HZC.out]; kernel_rfl) (by rw [HZC.out, HCZ.out]) HOC.out ?_))
  refine bodyPost_ret (results_cell_row rfl _ _ q 80 CV (0, 0) _ rfl (setRow_heap _ _ _ _ _ _ HQ.out) Tryz.underlying80 rfl (by rw [HZC.out]; kernel_rfl)) rfl ?_
  have hpq : p ≠ q := by have := HLT.out; have := HQE.out; omega
  have hoq := only_setRow11 w4 q CV
  have hwq : w.heap.size ≤ q := by rw [HQE.out]; exact Nat.le_refl _
  have hHO : Only p w (w4.setRow q CV) := HO3.out.behind hwq CV
  have hkq : ((cmR (bkT s)).1) ≠ [] → ∀ k, ob = some k → k ≠ q := fun hn k hk => by
    have := HOB.out (fun e => hn (cmE11 (bkE11 e))) k hk
    have := HQE.out
    omega
  exact ⟨_, tvs, _, svs, HTS.out, HSL.out, by rw [HCV.out]; rfl, (HTL.out.only hoq HQL.out).mono (by have := HQL.out; omega), (HVL.out.only hoq HQ3.out).mono (by have := HQ3.out; omega), HR3.out.stay11 hoq hpq hkq, hHO⟩
end Go.Proofs.YtanekacpalpcbaaGreatDoor

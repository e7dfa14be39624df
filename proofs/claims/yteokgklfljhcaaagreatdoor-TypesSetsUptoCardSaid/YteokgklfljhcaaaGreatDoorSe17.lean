/- Part 17 of the proof. -/
import Derived.Test.YteokgklfljhcaaaGreatDoorSe16
namespace Go.Proofs.YteokgklfljhcaaaGreatDoor
set_option linter.unusedVariables false
set_option linter.unusedSimpArgs false
open Go.RowKit
set_option maxRecDepth 100000
set_option linter.unusedSimpArgs false
set_option linter.unusedVariables false
theorem va_built (c : ByteArray) (F : Nat → Int) (n : Int) : Tryz.prog.built 54 [(0, .string c), (1, .agg (rowOf .u8 32 F)), (2, .int .i64 n)] = some (vaC ⟨c, F, n⟩) := by kernel_rfl
/-- a validator read, and behind it -/
def vaV (s : RSt) : Va := ⟨strOfNums (partS s 64).1, (hashS (partS s 64).2).1, (intS (hashS (partS s 64).2).2).1⟩
def vaR (s : RSt) : RSt := (intS (hashS (partS s 64).2).2).2
theorem vaE11 {s : RSt} (h : s.1 = []) : (vaR s).1 = [] := intE11 (hashE11 (partE11 h))
def vaN : Nat → RSt → RSt
  | 0, s => s
  | k + 1, s => vaR (vaN k s)
theorem vaNE11 {s : RSt} (h : s.1 = []) : ∀ k, (vaN k s).1 = []
  | 0 => h
  | k + 1 => vaE11 (vaNE11 h k)
def vas (k : Nat) (s : RSt) : List Va := (List.range k).map fun i => vaV (vaN i s)
theorem vas_len (k : Nat) (s : RSt) : (vas k s).length = k := by simp [vas]
theorem vas_snoc (k : Nat) (s : RSt) : vas (k + 1) s = vas k s ++ [vaV (vaN k s)] := by simp [vas, List.range_succ]
def vaZ11 : Value := .agg (vaC ⟨⟨#[]⟩, fun _ => 0, 0⟩)
abbrev vaTL (t : Va) : List Value := (vaC t).toList
theorem infoA11 : (Tryz.prog.info? 54).map (fun i => (i.zero, i.size, i.bytes)) = some (some vaZ11, 34, 56) := by kernel_rfl
theorem vaTL_len (t : Va) : (vaTL t).length = 34 := by rw [Array.length_toList, vaC_size]
theorem va_fill11 (t : Va) : Instr.fill (fun i => some (i * 34, 34)) ((Array.range (1 * 34)).map (vaZ11.cells[· % vaZ11.cells.size]!)) [(0, .agg (vaC t))] = some (vaTL t).toArray := by
  obtain ⟨c, F, n⟩ := t
  kernel_rfl
theorem vaTL_one (t : Va) : ∀ u ∈ vaTL t, u.oneCell' = true := one_mem11 (vaC_one t)
theorem wpList_oneA {w : World} {ops : Array Oper} {rest : List Oper} {o : Oper} {a : Act} {Q : Exit → Act → World → Prop} (hgd : o.guard = none) (x : Operand) (ho : o.op = .buildSlice 48 1 #[(0, x)]) (d : Option Tmp) (hd : o.dst = d) (t : Va) (v : Value) (hv : v = .agg (vaC t)) (hx : a.eval x = v)
    (h : wpList Tryz.prog ops Q rest (a.put d (.slice (some ⟨w.heap.size, 0, none⟩) 1 1)) (w.alloc (.cells (vaTL t).toArray 54))) : wpList Tryz.prog ops Q (o :: rest) a w := by
  subst hd hv
  refine wpList_plain hgd fun K hK => ?_
  obtain ⟨i0, hi, hz0, hz1, hz2⟩ := info_parts infoA11
  refine wp_buildSlice 48 54 1 #[(0, x)] ho (vaTL t).toArray i0 _ Tryz.underlying48 hi hz0 (by rw [hz1]; decide) (by rw [hz1]; decide) ?_ (hK _ _ h)
  rw [hz1]
  simpa [hx] using va_fill11 t
/-- a list of one's own -/
structure AL (w : World) (N : Nat) (vv : Value) (l : List Va) : Prop where
  rows : VaIn w vv l
  new : ∀ j, vv.ownBlock = some j → N ≤ j
structure LAM (w : World) (p : Nat) (ob : Option Nat) (s1 : RSt) (B k : Nat) (vv : Value) (wr : World) : Prop where
  row : wr.ownsRow B 54 34 vv k ((vas k s1).flatMap vaTL)
  rd : RO wr p ob (vaN k s1)
  only : Only p w wr
  B0 : w.heap.size ≤ B
  B1 : B ≤ wr.heap.size
  pB : p < B
  ob : s1.1 ≠ [] → ∀ k, ob = some k → k < B
theorem LAM.new {w : World} {p : Nat} {ob : Option Nat} {s1 : RSt} {B k : Nat} {vv : Value} {wr : World} (m : LAM w p ob s1 B k vv wr) {j : Nat} (h : vv.ownBlock = some j) : B ≤ j ∧ j < wr.heap.size := m.row.lt j h
theorem LA_row {w : World} {p : Nat} {ob : Option Nat} {s1 : RSt} {B k : Nat} {va : Option Addr} {vc : Nat} {wr w2 w3 : World} (m : LAM w p ob s1 B k (.slice va k vc) wr) (ho : Only p wr w2) (hb : Below w2.heap.size w2 w3) : w3.ownsRow B 54 34 (.slice va k vc) (vas k s1).length ((vas k s1).flatMap vaTL) := by
  rw [vas_len]
  refine own_stay11 m.row fun j hj => ?_
  have := m.new hj
  have := m.pB
  rw [hb.block j (Nat.lt_of_lt_of_le (m.new hj).2 ho.size), ho.block j (m.new hj).2 (by omega)]
theorem LA_next {w : World} {p : Nat} {ob : Option Nat} {s1 : RSt} {B k : Nat} {va : Option Addr} {vc : Nat} {wr w2 w3 w4 : World} {v4 : Value} (m : LAM w p ob s1 B k (.slice va k vc) wr) (ho : Only p wr w2) (hb : Below w2.heap.size w2 w3)
    (ho4 : w4.ownsRow B 54 34 v4 (vas k s1 ++ [vaV (vaN k s1)]).length ((vas k s1 ++ [vaV (vaN k s1)]).flatMap vaTL)) (hg4 : w3.grownBy w4 (Value.slice va k vc).ownBlock)
    (hr : RO w2 p ob (vaR (vaN k s1))) : LAM w p ob s1 B (k + 1) v4 w4 := by
  have hpB := m.pB
  have hB1 := m.B1
  have hs1 := ho.size
  have hs2 := hb.size
  have hs3 := hg4.size
  have ho3 : Only p wr w3 := ho.trans (Only.of_below hb)
  have hst : ∀ j, j < w3.heap.size → (Value.slice va k vc).ownBlock ≠ some j → w4.heap[j]? = w3.heap[j]? := fun j hj hne => hg4.block j hj (fun e => hne e.symm)
  refine ⟨?_, ?_, ?_, m.B0, by omega, hpB, m.ob⟩
  · rw [vas_snoc]
    rw [← vas_snoc, vas_len, vas_snoc] at ho4
    exact ho4
  · show RO w4 p ob (vaR (vaN k s1))
    obtain ⟨y, hy, rfl⟩ := hr.below11 hb
    refine ⟨y, hy.keep (hst p (by omega) fun e => by have := (m.new e).1; omega) fun hn j hj => hst j (hy.own_lt hn j hj) fun e => ?_, rfl⟩
    have h7 := m.ob (fun e0 => hn (vaNE11 e0 (k + 1))) j hj
    have := (m.new e).1
    omega
  · have hw0 : Only p w w3 := m.only.trans ho3
    exact ⟨hg4.os.trans hw0.os, hg4.tape.trans hw0.tape, hg4.output.trans hw0.output, Nat.le_trans hw0.size hg4.size, fun j hj hjp => (hst j (Nat.lt_of_lt_of_le hj hw0.size) fun e => by have := (m.new e).1; have := m.B0; omega).trans (hw0.block j hj hjp)⟩
set_option maxHeartbeats 4000000 in
theorem rval11 (p : Nat) (ob : Option Nat) (s : RSt) (w : World) (h : RO w p ob s) :
    Calls Tryz.prog 121 #[.pointer (some ⟨p, 0, none⟩)] w fun r w' => r = .returned (.agg (vaC (vaV s))) ∧ RO w' p ob (vaR s) ∧ Only p w w' := by
  have HLT := Lib.hid h.lt11
  have HOB := Lib.hid h.own11
  have HR0' := Lib.hid (fun o => h.below11 (below_alloc w o))
  clear h
  go_enter Tryz.func121, Tryz.ntmps121
  go_upto_region 1 with (fail)
  generalize hA : World.alloc w _ = w1
  obtain ⟨cz, hcz, hq⟩ : ∃ cz : Array Value, cz.size = 34 ∧ w1.heap[w.heap.size]? = some (.cells cz 54 (0, 0)) := ⟨_, by kernel_rfl, by rw [← hA]; exact heap_alloc_new _ _⟩
  have HCZ := Lib.hid hcz
  have HQ := Lib.hid hq
  have HR0 := Lib.hid (show RO w1 p ob s from by rw [← hA]; exact HR0'.out _)
  have HO0 := Lib.hid (show Only p w w1 from by rw [← hA]; exact Only.of_below (below_alloc _ _))
  clear hA hcz hq HR0'
  obtain ⟨q, hqe⟩ : ∃ q, q = w.heap.size := ⟨_, rfl⟩
  have HQE := Lib.hid hqe
  rw [← hqe] at HQ ⊢
  clear hqe
  go_wp2_with (first
    | (go_at_call 156; (with_reducible refine (rtextO_any p ob _ 64 w1 HR0.out (by omega) (by omega)).mono ?_); rintro e w2 ⟨rfl, hr, ho⟩; have HR1 := Lib.hid hr; have HO1 := Lib.hid (HO0.out.trans ho); replace HQ := Lib.hid ((ho.block q (Array.getElem?_eq_some_iff.1 HQ.out).1 (by have := HLT.out; have := HQE.out; omega)).trans HQ.out); clear hr ho)
    | (go_at_call 157; (with_reducible refine (hashO11 p ob _ w2 HR1.out).mono ?_); rintro e w3 ⟨rfl, hr, ho⟩; have HR2 := Lib.hid hr; have HO2 := Lib.hid (HO1.out.trans ho); replace HQ := Lib.hid ((ho.block q (Array.getElem?_eq_some_iff.1 HQ.out).1 (by have := HLT.out; have := HQE.out; omega)).trans HQ.out); clear hr ho)
    | (go_at_call 158; (with_reducible refine (intO_any p ob _ w3 HR2.out).mono ?_); rintro e w4 ⟨rfl, hr, ho⟩; have HR3 := Lib.hid hr; have HO3 := Lib.hid (HO2.out.trans ho); replace HQ := Lib.hid ((ho.block q (Array.getElem?_eq_some_iff.1 HQ.out).1 (by have := HLT.out; have := HQE.out; omega)).trans HQ.out); clear hr ho; obtain ⟨CV, hCV⟩ : ∃ x, x = vaC (vaV s) := ⟨_, rfl⟩; have HBU := Lib.hid ((va_built _ _ _).trans (congrArg some hCV.symm)); have HOC := Lib.hid (show CV.all (·.oneCell') = true from by rw [hCV]; exact vaC_one _); have HZC := Lib.hid ((congrArg Array.size hCV).trans (vaC_size _)); have HCV := Lib.hid hCV; clear hCV)
    | (refine wpList_buildTo rfl 54 #[(0, .tmp 4), (1, .tmp 6), (2, .tmp 8)] rfl (some 9) rfl CV (by refine Eq.trans (congrArg (Tryz.prog.built 54) ?_) HBU.out; kernel_rfl) ?_)
    | (refine wpList_store_row rfl 54 (.tmp 2) (.tmp 9) rfl q CV rfl rfl 54 _ HQ.out (by rw [HZC.out]; kernel_rfl) (by rw [HZC.out, HCZ.out]) HOC.out ?_))
  refine bodyPost_ret (results_cell_row rfl _ _ q 54 CV (0, 0) _ rfl (setRow_heap _ _ _ _ _ _ HQ.out) Tryz.underlying54 rfl (by rw [HZC.out]; kernel_rfl)) rfl ?_
  have hpq : p ≠ q := by have := HLT.out; have := HQE.out; omega
  have hoq := only_setRow11 w4 q CV
  have hwq : w.heap.size ≤ q := by rw [HQE.out]; exact Nat.le_refl _
  have hHO : Only p w (w4.setRow q CV) := HO3.out.behind hwq CV
  have hkq : ((vaR s).1) ≠ [] → ∀ k, ob = some k → k ≠ q := fun hn k hk => by
    have := HOB.out (fun e => hn (vaE11 e)) k hk
    have := HQE.out
    omega
  exact ⟨by rw [HCV.out], HR3.out.stay11 hoq hpq hkq, hHO⟩
set_option maxHeartbeats 8000000 in
theorem rlistA11 (p : Nat) (ob : Option Nat) (s : RSt) (w : World) (h : RO w p ob s) :
    Calls Tryz.prog 120 #[.pointer (some ⟨p, 0, none⟩), .int .i64 32, .func (.func 121) #[] #[]] w fun r w' => ∃ vv, r = .returned vv ∧ AL w' w.heap.size vv (vas (countS s 32).1 (countS s 32).2) ∧ RO w' p ob (vaN (countS s 32).1 (countS s 32).2) ∧ Only p w w' := by
  have HC := Lib.hid (show Calls Tryz.prog 155 #[.pointer (some ⟨p, 0, none⟩), .int .i64 32] w fun r w' => r = .returned (.int .i64 ((countS s 32).1 : Int)) ∧ RO w' p ob (countS s 32).2 ∧ Only p w w' from rcountO_any p ob s 32 (by omega) w h)
  have HLT := Lib.hid h.lt11
  have HM := Lib.hid (cnt_le11 s 32)
  obtain ⟨n, hn⟩ : ∃ n, n = (countS s 32).1 := ⟨_, rfl⟩
  obtain ⟨s1, hs1⟩ : ∃ n, n = (countS s 32).2 := ⟨_, rfl⟩
  rw [← hn] at HC HM ⊢
  rw [← hs1] at HC ⊢
  have hnm : n ≤ 32 := HM.out
  clear h hn hs1 HM
  go_enter Tryz.func120, Tryz.ntmps120
  go_wp2_with (go_at_call 155; (with_reducible refine HC.out.mono ?_); rintro e w1 ⟨rfl, hr, ho⟩; have HR := Lib.hid hr; have HO := Lib.hid ho; clear hr ho)
  have hob := HR.out
  have HM0 := Lib.hid (show LAM w p ob s1 w1.heap.size 0 (.slice none 0 0) w1 from ⟨World.ownsRow_nil _ _ _ _, hob, HO.out, HO.out.size, Nat.le_refl _, Nat.lt_of_lt_of_le HLT.out HO.out.size, hob.own11⟩)
  obtain ⟨B, hB⟩ : ∃ B, B = w1.heap.size := ⟨_, rfl⟩
  rw [← hB] at HM0
  clear hB hob HR HO HC
  go_loopw [7, 11] (fun y x wr => ∃ k : Nat, k ≤ n ∧ x = .int .i64 (k : Int) ∧ Hid (LAM w p ob s1 B k y wr)) (fun _ x _ => n - (intOf x).toNat)
  case atStart => exact ⟨0, Nat.zero_le _, rfl, HM0⟩
  case round =>
    clear HM0
    obtain ⟨k, hkn, rfl, HM⟩ := hrel
    have hm := HM.out
    obtain ⟨va, vc, hvv⟩ := own_slice11 hm.row
    subst hvv
    by_cases hlt : k < n
    · have hltI : (k : Int) < (n : Int) := by omega
      have M := Lib.hid hm
      have HRD := Lib.hid (show RO wr p ob (vaN k s1) from hm.rd)
      clear HM hm
      go_upto_region 5 with (first
        | (go_at_call 121; (with_reducible refine (rval11 p ob _ wr HRD.out).mono ?_); rintro e w2 ⟨rfl, hr, ho⟩; have HR2 := Lib.hid hr; have HO2 := Lib.hid ho; clear hr ho; obtain ⟨T, hT⟩ : ∃ t, t = vaV (vaN k s1) := ⟨_, rfl⟩; have HT := Lib.hid hT; obtain ⟨TV, hTV⟩ : ∃ t, t = Value.agg (vaC T) := ⟨_, rfl⟩; have HTV := Lib.hid hTV; rw [← hT, ← hTV]; clear hT hTV)
        | (refine wpList_oneA rfl (.tmp 16) rfl (some 17) rfl T TV HTV.out rfl ?_; have HQ := Lib.hid (heap_alloc_new w2 (.cells (vaTL T).toArray 54)); have hb2 := below_alloc w2 (.cells (vaTL T).toArray 54); have HB2 := Lib.hid hb2; clear hb2; obtain ⟨q, hq⟩ : ∃ q, q = w2.heap.size := ⟨_, rfl⟩; rw [← hq] at HQ ⊢; clear hq; generalize w2.alloc (.cells (vaTL T).toArray 54) = w3 at *)
        | (at_builtin; refine wpList_append_row11 (C := vaTL) vaTL_len 48 54 vaZ11 Tryz.underlying48 infoA11 (by kernel_rfl) (by omega) rfl (.tmp 13) (.tmp 17) rfl rfl B (.slice va k vc) (vas k s1) rfl (LA_row M.out HO2.out HB2.out) q T (vaTL_one T) rfl HQ.out (by rw [vas_len]; omega) (by rw [vas_len]; omega) (Nat.le_trans M.out.B1 (Nat.le_trans HO2.out.size HB2.out.size)) ?_; intro v4 w4 ho4 hg4 hw4; have HR4 := Lib.hid (LA_next M.out HO2.out HB2.out (by rw [← HT.out]; exact ho4) hg4 HR2.out); clear ho4 hg4 hw4))
      go_wp2_with (fail)
      go_roundw
      case rel => exact ⟨k + 1, by omega, by go_num, HR4⟩
      case measure => simp [intOf]; omega
    · obtain rfl : k = n := by omega
      have M := Lib.hid hm
      clear HM hm
      go_wp2_with (fail)
      go_ret
      have m := M.out
      refine ⟨.slice va k vc, rfl, ⟨?_, fun j hj => Nat.le_trans m.B0 (m.new hj).1⟩, m.rd, m.only⟩
      exact rows_of_own (C := vaTL) vaTL_len (by rw [vas_len]; exact m.row) (by rw [vas_len]; unfold maxLen; omega)
theorem rset11 (p : Nat) (ob : Option Nat) (s : RSt) (w : World) (h : RO w p ob s) :
    Calls Tryz.prog 69 #[.pointer (some ⟨p, 0, none⟩)] w fun r w' => ∃ vv, r = .returned vv ∧ AL w' w.heap.size vv (vas (countS s 32).1 (countS s 32).2) ∧ RO w' p ob (vaN (countS s 32).1 (countS s 32).2) ∧ Only p w w' := by
  have HC := Lib.hid (rlistA11 p ob s w h)
  clear h
  go_enter Tryz.func69, Tryz.ntmps69
  go_wp2_with (go_at_call 120; (with_reducible refine HC.out.mono ?_); rintro e w1 ⟨vv, rfl, ha, hr, ho⟩; have HA := Lib.hid ha; have HR := Lib.hid hr; have HO := Lib.hid ho; clear ha hr ho)
  go_ret
  exact ⟨_, rfl, HA.out, HR.out, HO.out⟩
end Go.Proofs.YteokgklfljhcaaaGreatDoor

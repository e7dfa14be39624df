/- Part 42 of the proof. -/
import Derived.Test.YtejglhlodfhgkaaGreatDoorXv29
namespace Go.Proofs.YtejglhlodfhgkaaGreatDoor
set_option linter.unusedVariables false
set_option linter.unusedSimpArgs false
open Go.RowKit
set_option maxRecDepth 100000
set_option linter.unusedSimpArgs false
set_option linter.unusedVariables false
def pxZ : Px := ⟨{ data := #[] }, 0, { data := #[] }, 0, [], []⟩
def trZ : Tr := ⟨{ data := #[] }, 0, { data := #[] }, 0, .slice none 0 0, [], .slice none 0 0, []⟩
theorem trZ_e (w : World) : TrE w trZ := ⟨rows_nil15 w, (fun m hm => by cases hm), nil_in w⟩
def decP (xs : List Int) : Px := if decOk xs then txV15 (xs, none) else pxZ
def decE (xs : List Int) : Option Nat := if decOk xs then none else some 3
theorem dec_no {xs : List Int} (h : decOk xs = false) : decP xs = pxZ ∧ decE xs = some 3 := by unfold decP decE; rw [h]; exact ⟨rfl, rfl⟩
theorem dec_yes {xs : List Int} (h : decOk xs = true) : decP xs = txV15 (xs, none) ∧ decE xs = none := by unfold decP decE; rw [h]; exact ⟨rfl, rfl⟩
theorem dec_long {xs : List Int} (h : 65536 < xs.length) : decOk xs = false := by unfold decOk; rw [decide_eq_false (by omega)]; rfl
theorem dec_done {xs : List Int} {e : Nat} (h : doneE (txR15 (xs, none)) = some e) : decOk xs = false := by unfold decOk; rw [h]; simp
theorem dec_chk {xs : List Int} {e : Nat} (h : chkX (txV15 (xs, none)) = some e) : decOk xs = false := by unfold decOk; rw [h]; simp
theorem dec_good {xs : List Int} (h : ¬ 65536 < xs.length) (h1 : doneE (txR15 (xs, none)) = none) (h2 : chkX (txV15 (xs, none)) = none) : decOk xs = true := by unfold decOk; rw [h1, h2, decide_eq_true (by omega)]; rfl
theorem partS_le (s : RSt) : (partS s 65536).1.length ≤ 65536 := by
  obtain ⟨ys, e⟩ := s
  cases e with
  | some x => exact Nat.zero_le _
  | none =>
    unfold partS
    simp only
    split
    · exact Nat.zero_le _
    · split
      · exact Nat.zero_le _
      · split
        · exact Nat.zero_le _
        · split
          · exact Nat.zero_le _
          · simp only [List.length_take]
            omega
theorem strOf_size (l : List Int) : (strOfNums l).size = l.length := by unfold strOfNums; simp [ByteArray.size]
theorem sV_le (s : RSt) : (sV15 s).size ≤ 65536 := by unfold sV15; rw [strOf_size]; exact partS_le s
/-- what Decode answers, in memory -/
def DecO (xs : List Int) (w : World) (e : Ending) (w' : World) : Prop := ∃ x : Tr, e = .returned (.tuple #[.agg (trC15 x), errV (decE xs)]) ∧ TrE w' x ∧ pxP x = decP xs ∧ Below w.heap.size w w'
theorem tx_blank : Tryz.prog.built 34 [] = some (trC15 trZ) := by kernel_rfl
set_option maxHeartbeats 8000000 in
theorem tdec_any (vb : Value) (xs : List Int) (w : World) (h : ShTab w) (hy : BytesIn w vb xs) (hok : bytesOk xs) (hl : xs.length ≤ 140737488355328) : Calls Tryz.prog 19 #[vb] w (DecO xs w) := by
  have HY0 := Lib.hid (fun o => hy.below (below_alloc w o))
  have HT0 := Lib.hid (fun o => h.below (below_alloc w o) h.lt)
  have HOK := Lib.hid hok
  have HL := Lib.hid hl
  have HBZ := Lib.hid tx_blank
  have HZE := Lib.hid trZ_e
  obtain ⟨CZ, hCZ⟩ : ∃ z, z = trC15 trZ := ⟨_, rfl⟩
  have HCZE := Lib.hid hCZ
  rw [← hCZ] at HBZ
  have HZS := Lib.hid (show CZ.size = 6 from by rw [hCZ]; rfl)
  have HZO := Lib.hid (show CZ.all (·.oneCell') = true from by rw [hCZ]; simp [trC15, trZ, Value.oneCell'])
  have HNO := Lib.hid (fun (hd : decOk xs = false) (w' : World) (hb : Below w.heap.size w w') => show DecO xs w (.returned (.tuple #[.agg CZ, errV (some 3)])) w' from ⟨trZ, by rw [hCZ, (dec_no hd).2], trZ_e w', by rw [(dec_no hd).1]; rfl, hb⟩)
  have HYES := Lib.hid (fun (x : Tr) (hd : decOk xs = true) (hx : pxP x = txV15 (xs, none)) (w' : World) (he : TrE w' x) (hb : Below w.heap.size w w') => show DecO xs w (.returned (.tuple #[.agg (trC15 x), errV none])) w' from ⟨x, by rw [(dec_yes hd).2], he, by rw [(dec_yes hd).1]; exact hx, hb⟩)
  have D1 := Lib.hid (dec_long (xs := xs))
  have D2 := Lib.hid (fun e => dec_done (xs := xs) (e := e))
  have D3 := Lib.hid (fun e => dec_chk (xs := xs) (e := e))
  have D4 := Lib.hid (dec_good (xs := xs))
  obtain ⟨va, vc, rfl, -⟩ := id hy
  obtain ⟨n, hn⟩ : ∃ z, z = xs.length := ⟨_, rfl⟩
  have HN := Lib.hid hn
  rw [← hn] at HY0 D1 D4 ⊢
  have hnI : (n : Int) ≤ 9223372036854775807 := by omega
  clear h hy hok hl hCZ hn
  generalize DecO xs w = PO at *
  go_enter Tryz.func19, Tryz.ntmps19
  go_upto_region 1 with (fail)
  generalize hA : World.alloc w _ = w1
  obtain ⟨cz, hcz, hq⟩ : ∃ cz : Array Value, cz.size = 6 ∧ w1.heap[w.heap.size]? = some (.cells cz 34 (0, 0)) := ⟨_, by kernel_rfl, by rw [← hA]; exact heap_alloc_new _ _⟩
  have HCZ := Lib.hid hcz
  have HQ := Lib.hid hq
  have HY := Lib.hid (show BytesIn w1 (.slice va n vc) xs from by rw [← hA]; exact HY0.out _)
  have HT := Lib.hid (show ShTab w1 from by rw [← hA]; exact HT0.out _)
  have HB1 := Lib.hid (show Below w.heap.size w w1 from by rw [← hA]; exact below_alloc _ _)
  have HS1 := Lib.hid (show w1.heap.size = w.heap.size + 1 from by rw [← hA]; simp)
  clear hA hcz hq HY0 HT0
  obtain ⟨q, hqe⟩ : ∃ q, q = w.heap.size := ⟨_, rfl⟩
  have HQE := Lib.hid hqe
  rw [← hqe] at HQ ⊢
  clear hqe
  by_cases h6 : 65536 < n
  · have h6I : (65536 : Int) < (n : Int) := by omega
    have HE := Lib.hid (D1.out h6)
    go_wp2_with (first
      | (refine wpList_buildTo rfl 34 #[] rfl (some 9) rfl CZ (by refine Eq.trans (congrArg (Tryz.prog.built 34) ?_) HBZ.out; kernel_rfl) ?_)
      | (refine wpList_store_row rfl 34 (.tmp 2) (.tmp 9) rfl q CZ rfl rfl 34 _ HQ.out (by rw [HZS.out]; kernel_rfl) (by rw [HZS.out, HCZ.out]) HZO.out ?_))
    refine bodyPost_ret (results_cell_tmp_row rfl _ _ q 34 CZ (0, 0) _ rfl (setRow_heap _ _ _ _ _ _ HQ.out) Tryz.underlying34 rfl (by rw [HZS.out]; kernel_rfl)) rfl ?_
    exact HNO.out HE.out _ (below_setRow HB1.out (by rw [HQE.out]; exact Nat.le_refl _) _)
  · have h6I : ¬ (65536 : Int) < (n : Int) := by omega
    clear D1
    go_upto_region 4 with (go_at_call 66; (with_reducible refine (read_any (.slice va n vc) xs w1 HY.out HOK.out HL.out).mono ?_); rintro e w2 ⟨g, y, rfl, hg, hra, hb⟩; have HG := Lib.hid hg; have HR := Lib.hid (show RO w2 g y.ownBlock (xs, none) from ⟨y, hra, rfl⟩); have HB2 := Lib.hid hb; replace HQ := Lib.hid ((hb.block q (Array.getElem?_eq_some_iff.1 HQ.out).1).trans HQ.out); clear hg hra hb)
    obtain ⟨ob, hob⟩ : ∃ ob, ob = y.ownBlock := ⟨_, rfl⟩
    rw [← hob] at HR
    clear hob
    go_upto_region 5 with (first
      | (go_at_call 67; (with_reducible refine (rtx15_any g ob _ w2 HR.out).mono ?_); rintro e w3 ⟨x, rfl, hxo, hxp, hr, ho⟩; have HX := Lib.hid hxo; have HXP := Lib.hid hxp; have HR3 := Lib.hid hr; have HO3 := Lib.hid ho; replace HQ := Lib.hid ((ho.block q (Array.getElem?_eq_some_iff.1 HQ.out).1 (by have := HG.out; have := HS1.out; have := HQE.out; omega)).trans HQ.out); have HXV := Lib.hid hxo.e.v; obtain ⟨CV, hCV⟩ : ∃ c, c = trC15 x := ⟨_, rfl⟩; have HCV := Lib.hid hCV; have HCS := Lib.hid (show CV.size = 6 from by rw [hCV]; rfl); have HCO := Lib.hid (show CV.all (·.oneCell') = true from by rw [hCV]; exact trC15_one HXV.out); rw [← hCV]; clear hCV hxo hxp hr ho)
      | (refine wpList_store_row rfl 34 (.tmp 5) (.tmp 14) rfl w3.heap.size CV rfl rfl 34 _ (heap_alloc_new _ _) (by rw [HCS.out]; kernel_rfl) (by rw [HCS.out]; rfl) HCO.out ?_; rw [World.setRow_alloc_new]))
    have HQ5 := Lib.hid (heap_alloc_new w3 (.cells CV 34))
    have HB4 := Lib.hid (below_alloc w3 (.cells CV 34))
    have h12 : Below w1.heap.size w1 w3 := HB2.out.trans (HO3.out.below HG.out HB2.out.size)
    have h14 : Below w.heap.size w (w3.alloc (.cells CV 34)) := HB1.out.trans ((h12.mono HB1.out.size).trans (HB4.out.mono (Nat.le_trans HB1.out.size h12.size)))
    have HW4 := Lib.hid h14
    have HT4 := Lib.hid (HT.out.below (h12.trans (HB4.out.mono h12.size)) HT.out.lt)
    have HX4 := Lib.hid (HX.out.below HB4.out)
    have HQN := Lib.hid (show q < w2.heap.size from by have := HB2.out.size; have := HQE.out; have := HS1.out; omega)
    have HQ4 := Lib.hid ((HB4.out.block q (Array.getElem?_eq_some_iff.1 HQ.out).1).trans HQ.out)
    have HE := Lib.hid (show Calls Tryz.prog 68 #[.pointer (some ⟨g, 0, none⟩)] (w3.alloc (.cells CV 34)) fun r w' => r = .returned (errV (doneE (txR15 (xs, none)))) ∧ w' = (w3.alloc (.cells CV 34)) from rdone_any g _ _ (HR3.out.below11 HB4.out).rs)
    have HCK := Lib.hid (show ∀ w, ShTab w → TrE w x → Calls Tryz.prog 14 #[.agg CV] w fun e w' => e = .returned (errV (chkX (txV15 (xs, none)))) ∧ Below w.heap.size w w' from fun w h he => by
      have hk := tcheck_any x w h he (by have := congrArg Px.acc HXP.out; show x.acc.size ≤ _; rw [show x.acc = sV15 (xs, none) from this]; have := sV_le (xs, none); omega) (by have := congrArg Px.den HXP.out; show x.den.size ≤ _; rw [show x.den = sV15 _ from this]; have := sV_le (iR15 (pR15 (xs, none))); omega)
      rw [HXP.out, ← HCV.out] at hk
      exact hk)
    clear h12 h14 HB1 HB2 HB4 HO3 HR HR3 HT HY HX
    obtain ⟨g5, hg5⟩ : ∃ z, z = w3.heap.size := ⟨_, rfl⟩
    rw [← hg5] at HQ5 ⊢
    clear hg5
    generalize w3.alloc (.cells CV 34) = w4 at *
    obtain ⟨DE, hDE⟩ : ∃ z, z = doneE (txR15 (xs, none)) := ⟨_, rfl⟩
    obtain ⟨CE, hCE⟩ : ∃ z, z = chkX (txV15 (xs, none)) := ⟨_, rfl⟩
    rw [← hDE] at HE D2 D4
    rw [← hCE] at HCK D3 D4
    clear hDE hCE
    cases DE with
    | some e1 =>
      have HF := Lib.hid (D2.out e1 rfl)
      simp only [errV] at HE
      clear D2 D3 D4 HCK
      go_wp2_with (first
        | (go_at_call 68; (with_reducible refine HE.out.mono ?_); rintro e w5 ⟨rfl, rfl⟩)
        | (refine wpList_buildTo rfl 34 #[] rfl (some 23) rfl CZ (by refine Eq.trans (congrArg (Tryz.prog.built 34) ?_) HBZ.out; kernel_rfl) ?_)
        | (refine wpList_store_row rfl 34 (.tmp 2) (.tmp 23) rfl q CZ rfl rfl 34 _ HQ4.out (by rw [HZS.out]; kernel_rfl) (by rw [HZS.out, HCZ.out]) HZO.out ?_))
      refine bodyPost_ret (results_cell_tmp_row rfl _ _ q 34 CZ (0, 0) _ rfl (setRow_heap _ _ _ _ _ _ HQ4.out) Tryz.underlying34 rfl (by rw [HZS.out]; kernel_rfl)) rfl ?_
      exact HNO.out HF.out _ (below_setRow HW4.out (by rw [HQE.out]; exact Nat.le_refl _) _)
    | none =>
      simp only [errV] at HE
      clear D2
      cases CE with
      | some e2 =>
        have HF := Lib.hid (D3.out e2 rfl)
        simp only [errV] at HCK
        clear D3 D4
        go_wp2_with (first
          | (go_at_call 68; (with_reducible refine HE.out.mono ?_); rintro e w5 ⟨rfl, rfl⟩)
          | (refine wpList_load_rowT (by rfl) 34 (.tmp 5) rfl g5 0 rfl CV _ (rowT_range HQ5.out) Tryz.underlying34 rfl (by rw [HCS.out]; kernel_rfl) ?_)
          | (go_at_call 14; (with_reducible refine (HCK.out _ HT4.out HX4.out.e).mono ?_); rintro e w6 ⟨rfl, hb⟩; replace HQ4 := Lib.hid ((hb.block q (Array.getElem?_eq_some_iff.1 HQ4.out).1).trans HQ4.out); have HW6 := Lib.hid (HW4.out.trans (hb.mono HW4.out.size)); clear hb)
          | (refine wpList_buildTo rfl 34 #[] rfl (some 23) rfl CZ (by refine Eq.trans (congrArg (Tryz.prog.built 34) ?_) HBZ.out; kernel_rfl) ?_)
          | (refine wpList_store_row rfl 34 (.tmp 2) (.tmp 23) rfl q CZ rfl rfl 34 _ HQ4.out (by rw [HZS.out]; kernel_rfl) (by rw [HZS.out, HCZ.out]) HZO.out ?_))
        refine bodyPost_ret (results_cell_tmp_row rfl _ _ q 34 CZ (0, 0) _ rfl (setRow_heap _ _ _ _ _ _ HQ4.out) Tryz.underlying34 rfl (by rw [HZS.out]; kernel_rfl)) rfl ?_
        exact HNO.out HF.out _ (below_setRow HW6.out (by rw [HQE.out]; exact Nat.le_refl _) _)
      | none =>
        have HF := Lib.hid (D4.out h6 (by trivial) (by trivial))
        simp only [errV] at HCK
        clear D3 D4
        go_wp2_with (first
          | (go_at_call 68; (with_reducible refine HE.out.mono ?_); rintro e w5 ⟨rfl, rfl⟩)
          | (refine wpList_load_rowT (by rfl) 34 (.tmp 5) rfl g5 0 rfl CV _ (rowT_range HQ5.out) Tryz.underlying34 rfl (by rw [HCS.out]; kernel_rfl) ?_)
          | (go_at_call 14; (with_reducible refine (HCK.out _ HT4.out HX4.out.e).mono ?_); rintro e w6 ⟨rfl, hb⟩; replace HQ4 := Lib.hid ((hb.block q (Array.getElem?_eq_some_iff.1 HQ4.out).1).trans HQ4.out); replace HQ5 := Lib.hid ((hb.block g5 (Array.getElem?_eq_some_iff.1 HQ5.out).1).trans HQ5.out); have HW6 := Lib.hid (HW4.out.trans (hb.mono HW4.out.size)); replace HX4 := Lib.hid (HX4.out.below hb); clear hb)
          | (refine wpList_store_row rfl 34 (.tmp 2) (.tmp 25) rfl q CV rfl rfl 34 _ HQ4.out (by rw [HCS.out]; kernel_rfl) (by rw [HCS.out, HCZ.out]) HCO.out ?_))
        refine bodyPost_ret (results_cell_tmp_row rfl _ _ q 34 CV (0, 0) _ rfl (setRow_heap _ _ _ _ _ _ HQ4.out) Tryz.underlying34 rfl (by rw [HCS.out]; kernel_rfl)) rfl ?_
        have h := HYES.out x HF.out HXP.out (w6.setRow q CV)
        rw [← HCV.out] at h
        exact h (HX4.out.only (only_setRow11 w6 q CV) HQN.out).e (below_setRow HW6.out (by rw [HQE.out]; exact Nat.le_refl _) _)
end Go.Proofs.YtejglhlodfhgkaaGreatDoor

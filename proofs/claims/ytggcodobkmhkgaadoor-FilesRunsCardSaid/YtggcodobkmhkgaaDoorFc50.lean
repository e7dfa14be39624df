/- Part 50 of the proof. -/
import Derived.Test.YtggcodobkmhkgaaDoorFc49
namespace Go.Proofs.YtggcodobkmhkgaaDoor
set_option linter.unusedVariables false
set_option linter.unusedSimpArgs false
open Go.RowKit Go.Maps Go.Proofs
set_option maxRecDepth 100000
set_option linter.unusedSimpArgs false
set_option linter.unusedVariables false
theorem fs_one (R : FsR) : (fsCells R).all (·.oneCell') = true := by simp [fsCells, Value.oneCell']
theorem grown_below {B : Nat} {w w' : World} {row : Option Nat} (h : w.grownBy w' row) (hr : ∀ j, row = some j → B ≤ j) (hB : B ≤ w.heap.size) : Below B w w' :=
  (Below.refl _ _).grown h hB hr
theorem blk_lt' {w : World} {b : Nat} {o : Obj} (h : w.heap[b]? = some o) : b < w.heap.size := (Array.getElem?_eq_some_iff.1 h).1
def ClPost (R : FsR) (w : World) (e : Ending) (w' : World) : Prop := ∃ q m, e = .returned (.pointer (some ⟨q, 0, none⟩)) ∧ w.heap.size ≤ q ∧ w.heap.size ≤ m ∧ FsAt w' (cloneR q m R (fun _ => false)) ∧ Below w.heap.size w w'
/-- the twin before the first entry -/
theorem fs_twin {R : FsR} {w w1 : World} {q : Nat} (H : FsAt w R) (hq : q = w.heap.size) (h1 : w1.heap[q]? = some (.cells (fsCells R) 98 (0, 0))) (hb : Below q w w1) (hs : w1.heap.size = q + 1) :
    FsAt ((w1.alloc (.map #[] 0)).setCell ⟨q, 0, none⟩ (.map (some w1.heap.size))) (cloneR q w1.heap.size R (Maps.has (entD R.es))) := by
  have e0 : doneE R.es (Maps.has (entD R.es)) = [] := done_none fun e he => by
    rw [entD_has]
    cases hg : getE e.nm R.es with
    | none => exact absurd rfl (getE_none hg e he)
    | some x => rfl
  have hr : (w1.alloc (.map #[] 0)).heap[q]? = some (.cells (fsCells R) 98 (0, 0)) := ((below1 _ _).block _ (blk_lt' h1)).trans h1
  have hne : w1.heap.size ≠ q := by omega
  refine ⟨?_, ?_, ?_, ?_, ?_, ?_, H.leftOk⟩
  · exact heap_setCell_same _ q 0 _ _ _ hr
  · show World.ownsMap _ _ _ _ _ (doneE _ _).length (entD (doneE _ _))
    rw [e0]
    exact (World.ownsMap_made w1 Tryd.prog 9 heldE).setCell hne _
  · intro e he; rw [show (cloneR q w1.heap.size R (Maps.has (entD R.es))).es = [] from e0] at he; cases he
  · show SortedE (doneE _ _); rw [e0]; exact List.Pairwise.nil
  · show (doneE _ _).Pairwise _; rw [e0]; exact List.Pairwise.nil
  · show (doneE _ _).length ≤ 64; rw [e0]; simp
set_option maxHeartbeats 4000000 in
theorem clone4_any (R : FsR) (w : World) (H : FsAt w R) : Calls Tryd.prog 11 #[.pointer (some ⟨R.pb, 0, none⟩)] w (ClPost R w) := by
  have hmh := fun n w => run_makeMap_hint (P := Tryd.prog) 96 _ _ Tryd.underlying96 n w
  have HH := Lib.hid H
  have hpb := H.pb_lt
  have hmb := H.mb_lt
  have HZ := Lib.hid (fs_one R)
  clear H
  go_enter Tryd.func11, Tryd.ntmps11
  go_upto_region 4 with (first
    | (refine wpList_load_row rfl 98 (.tmp 9) rfl R.pb rfl 98 _ (0, 0) _ HH.out.own Tryd.underlying98 rfl (by kernel_rfl) ?_)
    | (refine wpList_store_row rfl 98 (.tmp 3) (.tmp 10) rfl w.heap.size (fsCells R) rfl rfl 98 _ (heap_alloc_new _ _) (by kernel_rfl) rfl HZ.out ?_; rw [World.setRow_alloc_new]))
  obtain ⟨w1, hw1⟩ : ∃ w1, w1 = w.alloc (.cells (fsCells R) 98) := ⟨_, rfl⟩
  have H1 := Lib.hid (show w1.heap[w.heap.size]? = some (.cells (fsCells R) 98 (0, 0)) from by rw [hw1]; exact heap_alloc_new _ _)
  have HB1 := Lib.hid (show Below w.heap.size w w1 from by rw [hw1]; exact below1 _ _)
  have HS1 := Lib.hid (show w1.heap.size = w.heap.size + 1 from by rw [hw1]; simp)
  obtain ⟨q, hq⟩ : ∃ q, q = w.heap.size := ⟨_, rfl⟩
  have HQ := Lib.hid hq
  rw [← hw1, ← hq]
  rw [← hq] at H1 HB1 HS1
  clear hw1 hq
  have c0 : w1.cell? ⟨R.pb, 0, none⟩ = some (.map (some R.mb)) := (HH.out.below (by rw [← HQ.out]; exact HB1.out)).mapc
  have hlen : (Builtin.len_ #[96] 3 #[.map (some R.mb)]).run Tryd.prog w1 = .ok (.int .i64 R.es.length) w1 := by rw [(HH.out.below (by rw [← HQ.out]; exact HB1.out)).map.len Tryd.underlying96, entD_size]
  have f0 : (w1.alloc (.map #[] 0)).frozen? ⟨q, 0, none⟩ = false := frozen_of_row _ q 0 _ _ (((below1 _ _).block _ (blk_lt' H1.out)).trans H1.out)
  have d0 : (w1.alloc (.map #[] 0)).cell? ⟨q, 0, none⟩ = some (.map (some R.mb)) := by rw [cell_of_row _ q 0 _ _ _ (((below1 _ _).block _ (blk_lt' H1.out)).trans H1.out)]; rfl
  go_upto_region 5 with (fail)
  have HF := Lib.hid (fs_twin HH.out HQ.out H1.out HB1.out HS1.out)
  have HB2 := Lib.hid (show Below q w ((w1.alloc (.map #[] 0)).setCell ⟨q, 0, none⟩ (.map (some w1.heap.size))) from (HB1.out.alloc (by rw [HS1.out]; omega) _).setCell (Nat.le_refl _) _)
  have HM := Lib.hid (show q ≤ w1.heap.size by rw [HS1.out]; omega)
  generalize (w1.alloc (.map #[] 0)).setCell ⟨q, 0, none⟩ (.map (some w1.heap.size)) = w2 at *
  obtain ⟨m, hm⟩ : ∃ m, m = w1.heap.size := ⟨_, rfl⟩
  rw [← hm] at HF HM ⊢
  clear hm c0 hlen f0 d0 H1 HB1 HS1
  have HR2 := Lib.hid (HH.out.below (by rw [← HQ.out]; exact HB2.out))
  have c0 : w2.cell? ⟨R.pb, 0, none⟩ = some (.map (some R.mb)) := HR2.out.mapc
  go_wp2_with (first
    | (at_range; refine wpList_range_own _ rfl _ 96 rfl 9 113 strLaw Tryd.underlying96 heldE R.mb R.es.length (entD R.es) rfl HR2.out.map ?_; intro w3 hrg0 hg0 hs0)
    | go_in)
  go_frame
  have HG0 := Lib.hid hrg0
  have HB3 := Lib.hid (grown_below hg0 (fun j hj => by cases hj) (Nat.le_refl _))
  obtain ⟨r, hr⟩ : ∃ r, r = w2.heap.size := ⟨_, rfl⟩
  have HRM := Lib.hid (show m < r ∧ q ≤ r from by rw [hr]; exact ⟨HF.out.mb_lt, by rw [HQ.out]; exact HB2.out.size⟩)
  rw [← hr] at HG0 ⊢
  clear hrg0 hg0 hs0 hr c0
  go_loopw [4, 5] (fun _ _ wr => ∃ (left : Lit → Bool) (cnt : Nat), wr.ranges Tryd.prog 9 heldE R.mb r R.es.length (entD R.es) left cnt ∧ FsAt wr (cloneR q m R left) ∧ Below q w wr) (fun _ _ wr => wr.rangeLeft R.mb r)
  case atStart =>
    exact ⟨_, _, HG0.out, HF.out.below HB3.out, HB2.out.trans (HB3.out.mono (by rw [HQ.out]; exact HB2.out.size))⟩
  case round =>
    obtain ⟨left, cnt, hrg, hcl, hbl⟩ := hrel
    have HCL := Lib.hid hcl
    have HBL := Lib.hid hbl
    have HRG := Lib.hid hrg
    clear hcl hbl HG0 HF HB2 HB3 HR2
    go_wp2_with (first
      | (at_next; refine wpList_next_ranges _ rfl _ rfl 9 strLaw heldE encStr (fun v : Value => v) (fun key kl hk => by obtain ⟨x, hx, _⟩ := Maps.keyOf_str Tryd.underlying9 hk; exact ⟨x, hx⟩) (fun v y _ => ⟨v, rfl⟩) R.mb r R.es.length (entD R.es) left cnt rfl hrg ?_ ?_)
      | go_in)
    · intro _ hl0
      go_wp2_with (fail)
      go_ret
      have e1 : left = fun _ => false := funext hl0
      subst e1
      exact ⟨q, m, rfl, by rw [← HQ.out]; exact Nat.le_refl _, by rw [← HQ.out]; exact HM.out, HCL.out, by rw [← HQ.out]; exact HBL.out⟩
    · intro x c kl yd yp w4 cnt4 hkey hlk hv hat hrg4 hlt hg4 hs4 hen
      obtain ⟨x', ex, rfl, hx64⟩ := Maps.keyOf_str Tryd.underlying9 hkey
      obtain rfl : x = x' := encStr_inj ex
      obtain ⟨en, hem, rfl, rfl⟩ := entry_of hv hat
      obtain ⟨si, seen, ci, hit⟩ := ranges_iter HRG.out
      have hw4 : FsAt w4 (cloneR q m R left) := HCL.out.keep (.grown hg4 (fun cur T h => by rw [hit] at h; cases h) (F := fun k _ => k = r) (fun _ => rfl)) (fun k o hk => by subst hk; exact HCL.out.iter hit o)
      have hb4 : Below q w w4 := HBL.out.trans (grown_below hg4 (fun j hj => by injection hj with hj; subst hj; exact HRM.out.2) (by rw [HQ.out]; exact HBL.out.size))
      have hR4 : FsAt w4 R := HH.out.below (by rw [← HQ.out]; exact hb4)
      have hq4 : q ≤ w4.heap.size := by rw [HQ.out]; exact hb4.size
      obtain ⟨a, cp, hve⟩ := (hR4.ents en hem).1.len
      have hxl : en.xs.length ≤ 16777216 := (hR4.ents en hem).2.2.1
      have hvw := (hR4.ents en hem).1
      rw [show encStr en.nm = .string ⟨en.nm.toArray⟩ from rfl, show entV en = .agg #[.slice a en.xs.length cp, .int .i64 en.safe] by unfold entV; rw [hve]] at hen ⊢
      obtain ⟨V, hV⟩ : ∃ V, V = w4.alloc (.cells #[.slice a en.xs.length cp, .int .i64 en.safe] 113) := ⟨_, rfl⟩
      have hbV : Below w4.heap.size w4 V := by rw [hV]; exact below1 _ _
      have hsV : V.heap.size = w4.heap.size + 1 := by rw [hV]; simp
      have hx : V.heap[w4.heap.size]? = some (.cells #[.slice a en.xs.length cp, .int .i64 en.safe] 113 (0, 0)) := by rw [hV]; exact heap_alloc_new _ _
      have hsx : ∀ w', Below V.heap.size V w' → w'.cell? ⟨q, 0, none⟩ = some (.map (some m)) ∧ w'.cell? ⟨w4.heap.size, 0, none⟩ = some (.slice a en.xs.length cp) ∧ w'.cell? ⟨w4.heap.size, 1, none⟩ = some (.int .i64 en.safe) := fun w' hb1 =>
        ⟨(hw4.below (hbV.trans (hb1.mono (by omega)))).mapc, cell_at ((hb1.block _ (by omega)).trans hx) rfl, cell_at ((hb1.block _ (by omega)).trans hx) rfl⟩
      have hml : m < w4.heap.size := hw4.mb_lt
      have hne := hw4.ne
      have hsy : ∀ w5 w6, Below V.heap.size V w5 → Keep (fun k _ => k = m) w5 w6 → w6.cell? ⟨q, 0, none⟩ = some (.map (some m)) ∧ w6.cell? ⟨w4.heap.size, 0, none⟩ = some (.slice a en.xs.length cp) ∧ w6.cell? ⟨w4.heap.size, 1, none⟩ = some (.int .i64 en.safe) := fun w5 w6 hb1 hk1 => by
        have h0 := hsx w5 hb1
        have hF3 := hw4.below (hbV.trans (hb1.mono (by omega)))
        have hbx := (hb1.block _ (by omega)).trans hx
        exact ⟨hk1.cell hF3.own (fun h => hne h) h0.1, hk1.cell hbx (fun h => by omega) h0.2.1, hk1.cell hbx (fun h => by omega) h0.2.2⟩
      have hfir : ∀ w1, Below V.heap.size V w1 → Calls Tryd.prog 48 #[.agg #[.slice a en.xs.length cp, .int .i64 en.safe], .int .i64 (en.xs.length : Int)] w1 fun e w3 => e = .returned (.slice a en.xs.length en.xs.length) ∧ Below w1.heap.size w1 w3 := fun w1 hb1 => by
        have h := first_any en.v en.xs en.safe en.xs.length w1 (hvw.below (hbV.trans (hb1.mono (by omega)))) (Nat.le_refl _)
        rw [hve] at h
        exact h.mono fun e w3 ⟨h1, h2⟩ => ⟨h1, h2⟩
      have hput : ∀ w1, Below V.heap.size V w1 → ∃ w2, (Instr.mapUpdate 96 (.map (some m)) (.string ⟨en.nm.toArray⟩) (.agg #[.slice a en.xs.length en.xs.length, .int .i64 en.safe])).run Tryd.prog w1 = .ok () w2 ∧ FsAt w2 (cloneR q m R (fun z => left z && !z.sameKey (.string en.nm))) ∧ Keep (fun k _ => k = m) w1 w2 := fun w1 hb1 => by
        have hb := hbV.trans (hb1.mono (by omega))
        have h := clone_put (hw4.below hb) (hR4.below hb) hem hlk
        rw [hve] at h
        exact h
      have HSX := Lib.hid hsx
      have HSY := Lib.hid hsy
      have HFIR := Lib.hid hfir
      have HPUT := Lib.hid hput
      have HBV := Lib.hid hbV
      have HVV := Lib.hid hV
      have HR4 := Lib.hid hrg4
      have HB4 := Lib.hid hb4
      have HLT := Lib.hid hlt
      have HQ4 := Lib.hid hq4
      have hxi : (en.xs.length : Int) ≤ 16777216 := by omega
      have HNM := Lib.hid (show R.mb < q from by rw [HQ.out]; exact hmb)
      have HML := Lib.hid hml
      clear hs4 hsx hsy hfir hput hbV hsV hV hrg4 hb4 hlt hq4 hw4 hR4 hit hvw hve hx hg4 hkey hlk hv hat hml hne hem hx64 ex
      go_upto_region 8 with (fail)
      rw [← HVV.out]
      have hS0 := HSX.out V.drew (Below.refl _ V).drew
      go_region_held3 (fun w' => w'.cell? ⟨q, 0, none⟩ = some (.map (some m)) ∧ w'.cell? ⟨w4.heap.size, 0, none⟩ = some (.slice a en.xs.length cp) ∧ w'.cell? ⟨w4.heap.size, 1, none⟩ = some (.int .i64 en.safe))
        (first | (with_reducible exact hS0) | exact HSX.out _ HB5.out | exact HSY.out _ _ HB5.out HK6.out)
        (first | (go_at_call 48; (with_reducible refine (HFIR.out _ (Below.refl _ V).drew).mono ?_); rintro e w5 ⟨rfl, hb5⟩; obtain ⟨w6, hr6, hf6, hk6⟩ := HPUT.out w5 ((Below.refl _ V).drew.trans hb5); have HB5 := Lib.hid ((Below.refl V.heap.size V).drew.trans hb5); have HF6 := Lib.hid hf6; have HK6 := Lib.hid hk6; clear hb5 hf6 hk6))
      go_wp2_with (fail)
      have hrg6 : w6.ranges Tryd.prog 9 heldE R.mb r R.es.length (entD R.es) (fun z => left z && !z.sameKey (.string en.nm)) cnt4 :=
        ((ranges_below HR4.out HBV.out).kept (row := none) ⟨HB5.out.os, HB5.out.tape, HB5.out.output, HB5.out.size, fun i hi _ => HB5.out.block i hi⟩ (by simp) (by simp)).kept (row := some m) ⟨HK6.out.os, HK6.out.tape, HK6.out.output, HK6.out.size, fun i hi hne => HK6.out.block i hi fun o h => hne (by rw [h])⟩ (fun h => by injection h with h; have := HNM.out; have := HM.out; omega) (fun h => by injection h with h; have := HRM.out; omega)
      go_roundw
      case rel =>
        have hb5 : Below q w4 w6 := (HBV.out.mono HQ4.out).trans ((HB5.out.mono (Nat.le_trans HQ4.out HBV.out.size)).trans (HK6.out.below (fun i o hi h => by have := HM.out; omega) (Nat.le_trans HQ4.out (Nat.le_trans HBV.out.size HB5.out.size))))
        exact ⟨_, _, hrg6, HF6.out, HB4.out.trans hb5⟩
      case measure => rw [hrg6.left_eq, HRG.out.left_eq]; exact HLT.out
end Go.Proofs.YtggcodobkmhkgaaDoor

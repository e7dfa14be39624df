/- Part 18 of the proof. -/
import Derived.Test.YteokgklfljhcaaaGreatDoorBd8
import Derived.Test.YteokgklfljhcaaaGreatDoorBd16
import Derived.Test.YteokgklfljhcaaaGreatDoorBd17
namespace Go.Proofs.YteokgklfljhcaaaGreatDoor
set_option linter.unusedVariables false
set_option linter.unusedSimpArgs false
open Go.RowKit
set_option maxRecDepth 100000
set_option linter.unusedSimpArgs false
set_option linter.unusedVariables false
def hdOk (CH : ByteArray) (HT TM PR : Int) : Bool := nmB CH && (decide (1 ≤ HT) && (decide (HT ≤ 1099511627776) && (decide (0 ≤ TM) && (decide (TM ≤ 1099511627776) && decide (0 ≤ PR)))))
def z32 : Nat → Int := fun _ => 0
def txLen (ts : List Tb) : Bool := ts.all fun t => decide (t.bs.length ≤ 65536)
def txOk (TX : Nat → Int) (ts : List Tb) : Bool := decide (ts.length ≤ 64) && (txLen ts && eqB TX (rootF (ts.map txF)))
def laOk (HT : Int) (LA : Nat → Int) (c : Cm) (n : Nat) : Bool :=
  if HT = 1 then eqB LA z32 && (decide (c.height = 0) && (decide (c.round = 0) && (eqB c.blk z32 && decide (n = 0))))
  else !(eqB LA z32) && (decide (c.height = wrap64 (HT - 1)) && eqB c.blk LA)
set_option maxHeartbeats 4000000 in
theorem headercan_any (CH : ByteArray) (HT TM : Int) (LA AP TX VA NX : Nat → Int) (PR : Int) (w : World) (hn : CH.size ≤ 140737488351232) : Calls Tryz.prog 45 #[.agg (hdD CH HT TM LA AP TX VA NX PR)] w fun e w' => e = .returned (.bool (hdOk CH HT TM PR)) ∧ Below w.heap.size w w' := by
  obtain ⟨HC, hHC⟩ : ∃ x, x = hdD CH HT TM LA AP TX VA NX PR := ⟨_, rfl⟩
  have HCELL := Lib.hid (fun (w : World) (g : Nat) (h : w.heap[g]? = some (.cells HC 25 (0, 0))) => hdD_cells (by rw [hHC] at h; exact h))
  rw [← hHC]
  obtain ⟨nm, hnm⟩ : ∃ b, b = nmB CH := ⟨_, rfl⟩
  have HN := Lib.hid (fun w => isname_any CH w hn)
  rw [← hnm] at HN
  obtain ⟨r, hr⟩ : ∃ b, b = hdOk CH HT TM PR := ⟨_, rfl⟩
  have hbe : r = (nm && (decide (1 ≤ HT) && (decide (HT ≤ 1099511627776) && (decide (0 ≤ TM) && (decide (TM ≤ 1099511627776) && decide (0 ≤ PR)))))) := by rw [hr, hnm]; rfl
  rw [← hr]
  have HQ := Lib.hid (heap_alloc_new w (.cells HC 25))
  have HB := Lib.hid (below_alloc w (.cells HC 25))
  clear hHC hnm hr hn
  go_enter Tryz.func45, Tryz.ntmps45
  go_upto_region 1 with (fail)
  generalize w.alloc (.cells HC 25) = w1 at *
  obtain ⟨c0, -⟩ := HCELL.out _ _ HQ.out
  obtain ⟨q, hq⟩ : ∃ q, q = w.heap.size := ⟨_, rfl⟩
  rw [← hq] at c0 HQ ⊢
  clear hq
  cases nm with
  | false =>
    rw [Bool.false_and] at hbe
    subst hbe
    go_wp2_with (go_at_call 73; (with_reducible refine (HN.out _).mono ?_); rintro e w2 ⟨rfl, hb⟩; replace HQ := Lib.hid ((hb.block _ (bkT_lt HQ.out)).trans HQ.out); replace HB := Lib.hid (HB.out.trans (hb.mono HB.out.size)); obtain ⟨-, c1, c2, -, -, -, -, -, c8⟩ := HCELL.out _ _ HQ.out; clear hb)
    go_ret
    exact ⟨rfl, HB.out⟩
  | true =>
    rw [Bool.true_and] at hbe
    by_cases h0 : 1 ≤ HT
    · rw [decide_eq_true h0, Bool.true_and] at hbe
      by_cases h1 : HT ≤ 1099511627776
      · rw [decide_eq_true h1, Bool.true_and] at hbe
        by_cases h2 : 0 ≤ TM
        · rw [decide_eq_true h2, Bool.true_and] at hbe
          by_cases h3 : TM ≤ 1099511627776
          · rw [decide_eq_true h3, Bool.true_and] at hbe
            by_cases h4 : 0 ≤ PR
            · rw [decide_eq_true h4] at hbe
              subst hbe
              go_wp2_with (go_at_call 73; (with_reducible refine (HN.out _).mono ?_); rintro e w2 ⟨rfl, hb⟩; replace HQ := Lib.hid ((hb.block _ (bkT_lt HQ.out)).trans HQ.out); replace HB := Lib.hid (HB.out.trans (hb.mono HB.out.size)); obtain ⟨-, c1, c2, -, -, -, -, -, c8⟩ := HCELL.out _ _ HQ.out; clear hb)
              go_ret
              exact ⟨rfl, HB.out⟩
            · rw [decide_eq_false h4] at hbe
              subst hbe
              go_wp2_with (go_at_call 73; (with_reducible refine (HN.out _).mono ?_); rintro e w2 ⟨rfl, hb⟩; replace HQ := Lib.hid ((hb.block _ (bkT_lt HQ.out)).trans HQ.out); replace HB := Lib.hid (HB.out.trans (hb.mono HB.out.size)); obtain ⟨-, c1, c2, -, -, -, -, -, c8⟩ := HCELL.out _ _ HQ.out; clear hb)
              go_ret
              exact ⟨by show Ending.returned (.bool (decide (0 ≤ PR))) = _; rw [decide_eq_false (by omega)], HB.out⟩
          · rw [decide_eq_false h3, Bool.false_and] at hbe
            subst hbe
            go_wp2_with (go_at_call 73; (with_reducible refine (HN.out _).mono ?_); rintro e w2 ⟨rfl, hb⟩; replace HQ := Lib.hid ((hb.block _ (bkT_lt HQ.out)).trans HQ.out); replace HB := Lib.hid (HB.out.trans (hb.mono HB.out.size)); obtain ⟨-, c1, c2, -, -, -, -, -, c8⟩ := HCELL.out _ _ HQ.out; clear hb)
            go_ret
            exact ⟨rfl, HB.out⟩
        · rw [decide_eq_false h2, Bool.false_and] at hbe
          subst hbe
          go_wp2_with (go_at_call 73; (with_reducible refine (HN.out _).mono ?_); rintro e w2 ⟨rfl, hb⟩; replace HQ := Lib.hid ((hb.block _ (bkT_lt HQ.out)).trans HQ.out); replace HB := Lib.hid (HB.out.trans (hb.mono HB.out.size)); obtain ⟨-, c1, c2, -, -, -, -, -, c8⟩ := HCELL.out _ _ HQ.out; clear hb)
          go_ret
          exact ⟨rfl, HB.out⟩
      · rw [decide_eq_false h1, Bool.false_and] at hbe
        subst hbe
        go_wp2_with (go_at_call 73; (with_reducible refine (HN.out _).mono ?_); rintro e w2 ⟨rfl, hb⟩; replace HQ := Lib.hid ((hb.block _ (bkT_lt HQ.out)).trans HQ.out); replace HB := Lib.hid (HB.out.trans (hb.mono HB.out.size)); obtain ⟨-, c1, c2, -, -, -, -, -, c8⟩ := HCELL.out _ _ HQ.out; clear hb)
        go_ret
        exact ⟨rfl, HB.out⟩
    · rw [decide_eq_false h0, Bool.false_and] at hbe
      subst hbe
      go_wp2_with (go_at_call 73; (with_reducible refine (HN.out _).mono ?_); rintro e w2 ⟨rfl, hb⟩; replace HQ := Lib.hid ((hb.block _ (bkT_lt HQ.out)).trans HQ.out); replace HB := Lib.hid (HB.out.trans (hb.mono HB.out.size)); obtain ⟨-, c1, c2, -, -, -, -, -, c8⟩ := HCELL.out _ _ HQ.out; clear hb)
      go_ret
      exact ⟨rfl, HB.out⟩
theorem txLen_take {ts : List Tb} {k : Nat} {x : Tb} (h : ts[k]? = some x) (hx : x.bs.length ≤ 65536) (ht : txLen (ts.take k) = true) : txLen (ts.take (k + 1)) = true := by
  unfold txLen at *
  rw [List.take_add_one, h, List.all_append, ht]
  simp [hx]
theorem txLen_no {ts : List Tb} {k : Nat} {x : Tb} (h : ts[k]? = some x) (hx : ¬ x.bs.length ≤ 65536) : txLen ts = false := by
  unfold txLen
  rw [List.all_eq_false]
  exact ⟨x, List.mem_of_getElem? h, by simpa using hx⟩
/-- what lies in memory while a block is looked at -/
structure CkX (q : Nat) (HC CC : Array Value) (tv : Value) (ts : List Tb) (w : World) : Prop where
  h : w.heap[q]? = some (.cells (bkD HC tv CC) 31 (0, 0))
  t : TbIn w tv ts
  tb : ∀ t ∈ ts, BytesIn w t.bv t.bs
  e : Env w
theorem kept_ckx (q : Nat) (HC CC : Array Value) (tv : Value) (ts : List Tb) : Kept (CkX q HC CC tv ts) := fun _ _ m h => ⟨kept_blk _ _ _ _ m.h h, m.t.below h, fun t ht => (m.tb t ht).below h, m.e.below h m.e.lt⟩
theorem bk_tx {w : World} {g : Nat} {H C : Array Value} {tv : Value} {CH : ByteArray} {HT TM : Int} {LA AP TX VA NX : Nat → Int} {PR : Int} (hH : H = hdD CH HT TM LA AP TX VA NX PR) (h : w.heap[g]? = some (.cells (bkD H tv C) 31 (0, 0))) : w.rangeAt g 67 (rowOf .u8 32 TX).toList := by
  refine rangeT_app (A := #[.string CH] ++ (#[.int .i64 HT] ++ (#[.int .i64 TM] ++ (rowOf .u8 32 LA ++ rowOf .u8 32 AP)))) (B := rowOf .u8 32 TX) (C := rowOf .u8 32 VA ++ (rowOf .u8 32 NX ++ (#[.int .i64 PR] ++ (#[tv] ++ C)))) h ?_ (by simp [rowOf_size])
  apply Array.toList_inj.1
  rw [hH]
  simp [bkD, hdD]
theorem bk_la {w : World} {g : Nat} {H C : Array Value} {tv : Value} {CH : ByteArray} {HT TM : Int} {LA AP TX VA NX : Nat → Int} {PR : Int} (hH : H = hdD CH HT TM LA AP TX VA NX PR) (h : w.heap[g]? = some (.cells (bkD H tv C) 31 (0, 0))) : w.rangeAt g 3 (rowOf .u8 32 LA).toList := by
  refine rangeT_app (A := #[.string CH] ++ (#[.int .i64 HT] ++ #[.int .i64 TM])) (B := rowOf .u8 32 LA) (C := rowOf .u8 32 AP ++ (rowOf .u8 32 TX ++ (rowOf .u8 32 VA ++ (rowOf .u8 32 NX ++ (#[.int .i64 PR] ++ (#[tv] ++ C)))))) h ?_ (by simp)
  apply Array.toList_inj.1
  rw [hH]
  simp [bkD, hdD]
theorem bk_ht {w : World} {g : Nat} {H C : Array Value} {tv : Value} {CH : ByteArray} {HT TM : Int} {LA AP TX VA NX : Nat → Int} {PR : Int} (hH : H = hdD CH HT TM LA AP TX VA NX PR) (h : w.heap[g]? = some (.cells (bkD H tv C) 31 (0, 0))) : w.cell? ⟨g, 1, none⟩ = some (.int .i64 HT) := by
  refine cellT_app (A := #[.string CH]) (C := #[.int .i64 TM] ++ (rowOf .u8 32 LA ++ (rowOf .u8 32 AP ++ (rowOf .u8 32 TX ++ (rowOf .u8 32 VA ++ (rowOf .u8 32 NX ++ (#[.int .i64 PR] ++ (#[tv] ++ C)))))))) h ?_ (by simp)
  apply Array.toList_inj.1
  rw [hH]
  simp [bkD, hdD]
set_option maxHeartbeats 4000000 in
theorem txscan_any (CH : ByteArray) (HT TM : Int) (LA AP TX VA NX : Nat → Int) (PR : Int) (tv : Value) (CC : Array Value) (ts : List Tb) (w : World) (hcs : CC.size = 35) (he : Env w) (ht : TbIn w tv ts) (hts : ∀ t ∈ ts, BytesIn w t.bv t.bs) (hz : ∀ t ∈ ts, t.bs.length + 81 ≤ 140737488355328) (hn : ts.length ≤ 1048576) :
    Calls Tryz.prog 46 #[.agg (bkD (hdD CH HT TM LA AP TX VA NX PR) tv CC)] w fun e w' => e = .returned (.bool (txOk TX ts)) ∧ Below w.heap.size w w' := by
  obtain ⟨ta, tc, rfl, -, -⟩ := ht.len
  obtain ⟨HC, hHC⟩ : ∃ x, x = hdD CH HT TM LA AP TX VA NX PR := ⟨_, rfl⟩
  have HHC := Lib.hid hHC
  have HHS := Lib.hid (show HC.size = 164 from by rw [hHC]; exact hdD_size _ _ _ _ _ _ _ _ _)
  rw [← hHC]
  have hb1 := below_alloc w (.cells (bkD HC (.slice ta ts.length tc) CC) 31)
  have M := Lib.hid (show Kp w (w.alloc (.cells (bkD HC (.slice ta ts.length tc) CC) 31)) (CkX w.heap.size HC CC (.slice ta ts.length tc) ts) from ⟨hb1, ⟨heap_alloc_new _ _, ht.below hb1, fun t m => (hts t m).below hb1, he.below hb1 he.lt⟩, kept_ckx _ _ _ _ _⟩)
  obtain ⟨RT, hRT⟩ : ∃ R, R = rootF (ts.map txF) := ⟨_, rfl⟩
  have HRT := Lib.hid (show ∀ tv w, Env w → TbIn w tv ts → (∀ t ∈ ts, BytesIn w t.bv t.bs) → Calls Tryz.prog 9 #[tv] w fun e w' => e = .returned (.agg (rowOf .u8 32 RT)) ∧ Below w.heap.size w w' from fun tv w h1 h2 h3 => by rw [hRT]; exact ptxs_any ts tv w h1 h2 h3 hz hn)
  have HNO := Lib.hid (fun k x => txLen_no (ts := ts) (k := k) (x := x))
  have HTK := Lib.hid (fun k x => txLen_take (ts := ts) (k := k) (x := x))
  obtain ⟨r, hr⟩ : ∃ b, b = txOk TX ts := ⟨_, rfl⟩
  have HRR := Lib.hid (show r = (decide (ts.length ≤ 64) && (txLen ts && eqB TX RT)) from by rw [hr, hRT]; rfl)
  rw [← hr]
  have heq := eq32 TX RT
  obtain ⟨n, hnn⟩ : ∃ n, n = ts.length := ⟨_, rfl⟩
  have HNN := Lib.hid hnn
  rw [← hnn] at M ⊢
  have hnI : (n : Int) ≤ 1048576 := by omega
  clear he ht hts hz hb1 hRT hr hHC hn hnn
  go_enter Tryz.func46, Tryz.ntmps46
  go_upto_region 1 with (fail)
  obtain ⟨q, hq⟩ : ∃ q, q = w.heap.size := ⟨_, rfl⟩
  rw [← hq] at M ⊢
  clear hq
  generalize w.alloc (.cells (bkD HC (.slice ta n tc) CC) 31) = w1 at *
  have ct := bk_t M.out.x.h HHS.out
  by_cases h64 : n ≤ 64
  · have h64I : ¬ (64 : Int) < (n : Int) := by omega
    have HRS := Lib.hid (show r = (txLen ts && eqB TX RT) from by rw [HRR.out, decide_eq_true (by rw [← HNN.out]; exact h64), Bool.true_and])
    clear h64 HRR
    go_upto_region 4 with (fail)
    have HM0 := Lib.hid (show Kp w w1 (CkX q HC CC (.slice ta n tc) ts) ∧ txLen (ts.take 0) = true from ⟨M.out, rfl⟩)
    clear M ct
    go_wp2_with (fail)
    go_loopw [12] (fun x wr => ∃ k : Nat, k ≤ n ∧ x = .int .i64 (k : Int) ∧ Hid (Kp w wr (CkX q HC CC (.slice ta n tc) ts) ∧ txLen (ts.take k) = true)) (fun x _ => n - (intOf x).toNat)
    case atStart => exact ⟨0, Nat.zero_le _, rfl, HM0⟩
    case round =>
      clear HM0
      obtain ⟨k, hkn, rfl, HM⟩ := hrel
      have M := Lib.hid HM.out.1
      have HLL := Lib.hid HM.out.2
      clear HM
      by_cases hlt : k < n
      · have hltI : (k : Int) < (n : Int) := by omega
        obtain ⟨x, hx⟩ : ∃ x, ts[k]? = some x := ⟨ts[k]'(by have := HNN.out; omega), List.getElem?_eq_getElem _⟩
        have hv := M.out.x.t
        rw [HNN.out] at hv
        obtain ⟨ab, ao, rfl, hab, hra⟩ := hv.at hx
        obtain ⟨ba, bc, hbv, -, -⟩ := M.out.x.tb x (List.mem_of_getElem? hx)
        have h1 : wr.cell? ⟨ab, ao + k, none⟩ = some (.slice ba x.bs.length bc) := by have := hra 0 _ rfl; rw [Nat.mul_one, hbv] at this; exact this
        obtain ⟨bl, hbl⟩ : ∃ n, n = x.bs.length := ⟨_, rfl⟩
        have HBL := Lib.hid hbl
        have HX := Lib.hid hx
        rw [← hbl] at h1
        clear hra hv hab hbv hx hbl
        by_cases hbl : bl ≤ 65536
        · have hblI : ¬ (65536 : Int) < (bl : Int) := by omega
          have HL2 := Lib.hid (HTK.out k x HX.out (by rw [← HBL.out]; exact hbl) HLL.out)
          clear hbl
          go_wp2_with (fail)
          go_roundw
          case rel => exact ⟨k + 1, by omega, by go_num, Lib.hid ⟨M.out, HL2.out⟩⟩
          case measure => simp [intOf]; omega
        · have hblI : (65536 : Int) < (bl : Int) := by omega
          have HN := Lib.hid (HNO.out k x HX.out (by rw [← HBL.out]; exact hbl))
          clear hbl
          go_wp2_with (fail)
          go_ret
          exact ⟨by rw [HRS.out, HN.out]; rfl, M.out.below⟩
      · obtain rfl : k = n := by omega
        have HRF := Lib.hid (show r = eqB TX RT from by have h := HLL.out; rw [HNN.out, List.take_length] at h; rw [HRS.out, h, Bool.true_and])
        rw [← HRF.out] at heq
        go_upto_region 9 with (fail)
        refine wp_region_T (fun W => Kp w W (CkX q HC CC (.slice ta k tc) ts)) [2, 4, 5, 6, 7] (by kernel_rfl) ?_
        replace M := Lib.hid (M.out.call (Below.refl _ _).drew)
        generalize wr.drew = wd at *
        refine anyT_takeY (i := 0) (v := .pointer (some ⟨q, 0, none⟩)) rfl (by kernel_rfl) (by kernel_rfl) (by kernel_rfl) (fun _ _ _ h => h) (by kernel_rfl) (Or.inl ⟨by rfl, by intro w; go_simp⟩) ?_
        try simp only [List.getElem_toArray, List.getElem_cons_succ, List.getElem_cons_zero, Act.put, List.setIfInBounds_toArray, List.set_cons_zero, List.set_cons_succ]
        refine anyT_takeY (i := 1) (v := .pointer (some ⟨q, 67, none⟩)) rfl (by kernel_rfl) (by kernel_rfl) (by kernel_rfl) (fun _ _ _ h => h) (by kernel_rfl) (Or.inl ⟨by rfl, by intro w; go_simp⟩) ?_
        try simp only [List.getElem_toArray, List.getElem_cons_succ, List.getElem_cons_zero, Act.put, List.setIfInBounds_toArray, List.set_cons_zero, List.set_cons_succ]
        refine anyT_takeY (i := 3) (v := .pointer (some ⟨q, 164, none⟩)) rfl (by kernel_rfl) (by kernel_rfl) (by kernel_rfl) (fun _ _ _ h => h) (by kernel_rfl) (Or.inl ⟨by rfl, by intro w; go_simp⟩) ?_
        try simp only [List.getElem_toArray, List.getElem_cons_succ, List.getElem_cons_zero, Act.put, List.setIfInBounds_toArray, List.set_cons_zero, List.set_cons_succ]
        refine anyT_take [] (i := 2) (v := .agg (rowOf .u8 32 TX)) rfl (by kernel_rfl) (by kernel_rfl) (by kernel_rfl) (fun _ _ _ h => h) (by kernel_rfl) (rowT_yields (by rfl) 23 (.tmp 21) rfl q 67 rfl _ _ (fun _ h => bk_tx HHC.out h.x.h) Tryz.underlying23 rfl (by rw [rowOf_size]; kernel_rfl)) M.out ?_
        try simp only [List.getElem_toArray, List.getElem_cons_succ, List.getElem_cons_zero, Act.put, List.setIfInBounds_toArray, List.set_cons_zero, List.set_cons_succ]
        refine anyT_take [] (i := 4) (v := .slice ta k tc) rfl (by kernel_rfl) (by kernel_rfl) (by kernel_rfl) (fun _ _ _ h => h) (by kernel_rfl) (Or.inl ⟨by rfl, fun w' hS => by have c := bk_t hS.x.h HHS.out; go_simp⟩) M.out ?_
        try simp only [List.getElem_toArray, List.getElem_cons_succ, List.getElem_cons_zero, Act.put, List.setIfInBounds_toArray, List.set_cons_zero, List.set_cons_succ]
        refine anyT_one (i := 5) (by kernel_rfl) rfl (fun K hK => ?_)
        rw [if_pos (by rfl)]
        try simp only [List.getElem_toArray, List.getElem_cons_succ, List.getElem_cons_zero]
        (go_simp; (with_reducible refine (HRT.out _ _ M.out.x.e M.out.x.t M.out.x.tb).mono ?_); rintro e w5 ⟨rfl, hb⟩; replace M := Lib.hid (M.out.call hb); clear hb)
        refine hK _ _ (fun _ => M.out) ?_
        clear hK K
        try simp only [List.getElem_toArray, List.getElem_cons_succ, List.getElem_cons_zero, Act.put, List.setIfInBounds_toArray, List.set_cons_zero, List.set_cons_succ]
        refine anyT_take [] (i := 6) (v := .bool r) rfl (by kernel_rfl) (by kernel_rfl) (by kernel_rfl) (fun _ _ _ h => h) (by kernel_rfl) (Or.inl ⟨by rfl, fun w' _ => by go_simp⟩) M.out ?_
        try simp only [List.getElem_toArray, List.getElem_cons_succ, List.getElem_cons_zero, Act.put, List.setIfInBounds_toArray, List.set_cons_zero, List.set_cons_succ]
        refine anyT_take [] (i := 7) (v := .bool r) rfl (by kernel_rfl) (by kernel_rfl) (by kernel_rfl) (fun _ _ _ h => h) (by kernel_rfl) (Or.inl ⟨by rfl, fun w' _ => by go_simp⟩) M.out ?_
        try simp only [List.getElem_toArray, List.getElem_cons_succ, List.getElem_cons_zero, Act.put, List.setIfInBounds_toArray, List.set_cons_zero, List.set_cons_succ]
        refine anyT_done (by kernel_rfl) ?_ _
        go_wp2_with (fail)
        go_ret
        exact ⟨rfl, M.out.below⟩
  · have h64I : (64 : Int) < (n : Int) := by omega
    have HRF := Lib.hid (show r = false from by rw [HRR.out, decide_eq_false (by rw [← HNN.out]; exact h64), Bool.false_and])
    clear h64
    go_wp2_with (fail)
    go_ret
    exact ⟨by rw [HRF.out]; rfl, M.out.below⟩
end Go.Proofs.YteokgklfljhcaaaGreatDoor

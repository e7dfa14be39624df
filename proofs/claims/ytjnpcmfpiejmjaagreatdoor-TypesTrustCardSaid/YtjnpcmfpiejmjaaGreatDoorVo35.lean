/- Part 35 of the proof. -/
import Derived.Test.YtjnpcmfpiejmjaaGreatDoorVo28
import Derived.Test.YtjnpcmfpiejmjaaGreatDoorVo34
namespace Go.Proofs.YtjnpcmfpiejmjaaGreatDoor
set_option linter.unusedVariables false
set_option linter.unusedSimpArgs false
open Go.RowKit
set_option maxRecDepth 100000
theorem par_cells2 {w : World} {g : Nat} {D E : Int} (h : w.heap[g]? = some (.cells (parC D E) 42 (0, 0))) : w.cell? ⟨g, 0, none⟩ = some (.int .i64 D) ∧ w.cell? ⟨g, 1, none⟩ = some (.int .i64 E) :=
  ⟨by rw [cell_of_row _ _ _ _ _ _ h]; rfl, by rw [cell_of_row _ _ _ _ _ _ h]; rfl⟩
structure RvM (w w' : World) (F : Nat → Int) (D E : Int) : Prop where
  below : Below w.heap.size w w'
  row : RowAt w' w.heap.size .u8 32 32 F
  par : w'.heap[w.heap.size + 1]? = some (.cells (parC D E) 42 (0, 0))
theorem RvM.call {w w' w2 : World} {F : Nat → Int} {D E : Int} (m : RvM w w' F D E) (h : Below w'.heap.size w' w2) : RvM w w2 F D E :=
  ⟨m.below.trans (h.mono m.below.size), m.row.below h m.row.lt, (h.block _ (heap_lt' m.par)).trans m.par⟩
theorem rvM_start (w : World) (F : Nat → Int) (D E : Int) : RvM w (verW w F D E) F D E := by
  obtain ⟨h1, h2, h3⟩ := key_start w F D E
  exact ⟨h1, h2, h3⟩
theorem fromR_no0 (ss : List Int) (leaf : Int) (xs : List Int) : (fromR ss leaf xs).2 ≠ some 0 := by
  unfold fromR
  split
  · split <;> simp
  · simp
theorem foldR_no0 (s0 : Nat → Int) (i : Int) (n : Nat) (ps : List (Nat → Int)) : (foldR s0 i n ps).2 ≠ some 0 := by
  unfold foldR
  split
  · split <;> simp
  · simp
theorem rkverify_no (F : Nat → Int) (D E : Int) (vt vs : Value) (w : World) (h : ¬ kOk D E) :
    Calls Tryz.prog 76 #[.agg (rowOf .u8 32 F), .agg (parC D E), vt, vs] w fun e w' => e = .returned (.int .i64 20) ∧ Below w.heap.size w w' := by
  have HC := Lib.hid (show ∀ w, Calls Tryz.prog 75 #[.agg (parC D E)] w fun e w' => e = .returned (.int .i64 20) ∧ Below w.heap.size w w' from fun w => by
    have h2 := rcheck_any D E w; rw [show ckR D E = some 20 by unfold ckR; rw [if_neg h]] at h2; exact h2)
  have M := Lib.hid (rvM_start w F D E)
  clear h
  go_enter Tryz.func76, Tryz.ntmps76
  go_upto_region 1 with (fail)
  have e0 : (w.alloc (.cells (rowOf .u8 32 F) 32)).alloc (.cells (parC D E) 42) = verW w F D E := rfl
  rw [e0]; clear e0
  generalize verW w F D E = w1 at *
  go_wp2_with (first
    | (refine wpList_load_row rfl 42 (.tmp 5) rfl (w.heap.size + 1) rfl 42 _ (0, 0) _ M.out.par Tryz.underlying42 rfl (by kernel_rfl) ?_)
    | (go_at_call 75; (with_reducible refine (HC.out _).mono ?_); rintro e w2 ⟨rfl, hb⟩; replace M := Lib.hid (M.out.call hb); clear hb))
  go_ret
  exact ⟨rfl, M.out.below⟩
theorem decS_err {xs : List Int} {x : Nat} (h : (decS xs).2 = some x) : x = 3 := by
  unfold decS at h
  split at h
  · simp at h
  · simp at h; omega
set_option maxHeartbeats 2000000 in
theorem rkverify_ok (F : Nat → Int) (D : Int) (k : Nat) (vt vs : Value) (text sign : List Int) (w : World) (hD : 1 ≤ D ∧ D ≤ 32) (hk : k ≤ 10) (ht : BytesIn w vt text) (htl : text.length + 81 ≤ 140737488355328) (hs : BytesIn w vs sign) (hb : bytesOk sign) (hl : sign.length ≤ 140737488351232) :
    Calls Tryz.prog 76 #[.agg (rowOf .u8 32 F), .agg (parC D k), vt, vs] w fun e w' => e = .returned (.int .i64 (numE (verR F D k text sign))) ∧ Below w.heap.size w w' := by
  have hok : kOk D (k : Int) := by unfold kOk; omega
  have HC := Lib.hid (show ∀ w, Calls Tryz.prog 75 #[.agg (parC D k)] w fun e w' => e = .returned (.int .i64 0) ∧ Below w.heap.size w w' from fun w => by
    have h2 := rcheck_any D k w; rw [show ckR D k = none by unfold ckR; rw [if_pos hok]] at h2; exact h2)
  have HV := Lib.hid (show verR F D k text sign = match (decS sign).2 with
    | some x => some x
    | none => if (signerR (decS sign).1 D k text).2 = none ∧ eqB (signerR (decS sign).1 D k text).1 F = true then none else some 21 by unfold verR; rw [if_pos hok] <;> rfl)
  have M := Lib.hid (rvM_start w F D k)
  have HT := Lib.hid ht
  have HS := Lib.hid hs
  have HTL := Lib.hid htl
  obtain ⟨n, hn⟩ : ∃ n : Nat, n = 2 ^ k := ⟨_, rfl⟩
  have hnb : n ≤ 1024 := by rw [hn]; exact Nat.pow_le_pow_right (n := 2) (by omega) hk
  have hshl : wrap64 ((2 : Int) ^ k) = (n : Int) := by
    have h2 : (2 : Int) ^ k = ((2 ^ k : Nat) : Int) := by simp
    rw [h2, ← hn]; exact IntWalk.wrap64_in _ ⟨by omega, by omega⟩
  have hkI : (0 : Int) ≤ k := by omega
  have hkb : (k : Int) ≤ 10 := by omega
  have HN := Lib.hid hn
  have HDC := Lib.hid (fun w h => rparts_any vs sign w h hb hl)
  obtain ⟨hd0, hd1, -⟩ := digR_ok (xs := text) hD
  obtain ⟨dg, hdg⟩ : ∃ dg, dg = (digR text D).1 := ⟨_, rfl⟩
  have HDG := Lib.hid (show ∀ w, BytesIn w vt text → Calls Tryz.prog 140 #[vt, .int .i64 D] w fun e w' => ∃ v', e = .returned (.tuple #[v', .int .i64 0]) ∧ BytesIn w' v' dg ∧ Below w.heap.size w w' from fun w h => by
    have := rdigest_any vt text D w h HTL.out; rw [hd0, ← hdg] at this; exact this)
  rw [← hdg] at hd1
  have HDB := Lib.hid hd1
  have HSG := Lib.hid (show ∀ s : Sg, signerR s D k text = match (fromR s.once (s.leaf : Int) dg).2 with | some x => (zF, some x) | none => foldR (fromR s.once (s.leaf : Int) dg).1 (s.leaf : Int) n s.path from fun s => by
    unfold signerR; rw [hd0, ← hdg, hn]; simp only [Int.toNat_natCast] <;> rfl)
  have HE3 := Lib.hid (show ∀ x, (decS sign).2 = some x → x = 3 from fun x h => decS_err h)
  clear ht hs hb hl hok hn hD hk hd0 hd1 hdg htl
  obtain ⟨sg, er, hsg⟩ : ∃ sg er, decS sign = (sg, er) := ⟨_, _, rfl⟩
  rw [hsg] at HV HDC HE3
  clear hsg
  go_enter Tryz.func76, Tryz.ntmps76
  go_upto_region 1 with (fail)
  have e0 : (w.alloc (.cells (rowOf .u8 32 F) 32)).alloc (.cells (parC D k) 42) = verW w F D k := rfl
  rw [e0]; clear e0
  generalize verW w F D k = w1 at *
  cases er with
  | some x =>
    obtain rfl : x = 3 := HE3.out _ rfl
    go_wp2_with (first
      | (refine wpList_load_row rfl 42 (.tmp 5) rfl (w.heap.size + 1) rfl 42 _ (0, 0) _ M.out.par Tryz.underlying42 rfl (by kernel_rfl) ?_)
      | (go_at_call 75; (with_reducible refine (HC.out _).mono ?_); rintro e w2 ⟨rfl, hb⟩; replace M := Lib.hid (M.out.call hb); clear hb)
      | (go_at_call 139; (with_reducible refine (HDC.out _ (HS.out.below M.out.below)).mono ?_); rintro e w3 ⟨vo, vp, rfl, ho, hp, hb⟩; rw [show numE (some 3) = 3 from rfl]; have HW := Lib.hid (sg_all sg.leaf ho hp); replace M := Lib.hid (M.out.call hb); clear ho hp hb)
      | (refine wpList_store_row rfl 204 (.tmp 9) (.tmp 23) rfl w3.heap.size (sgC sg.leaf vo vp) rfl rfl 204 _ (heap_alloc_new _ _) (by kernel_rfl) (by rfl) HW.out ?_; rw [World.setRow_alloc_new]; replace M := Lib.hid (M.out.call (below_alloc w3 (.cells (sgC sg.leaf vo vp) 204))); generalize w3.alloc (.cells (sgC sg.leaf vo vp) 204) = w4 at *))
    go_ret
    rw [HV.out]
    exact ⟨rfl, M.out.below⟩
  | none =>
    go_upto_region 6 with (first
      | (refine wpList_load_row rfl 42 (.tmp 5) rfl (w.heap.size + 1) rfl 42 _ (0, 0) _ M.out.par Tryz.underlying42 rfl (by kernel_rfl) ?_)
      | (go_at_call 75; (with_reducible refine (HC.out _).mono ?_); rintro e w2 ⟨rfl, hb⟩; replace M := Lib.hid (M.out.call hb); clear hb)
      | (go_at_call 139; (with_reducible refine (HDC.out _ (HS.out.below M.out.below)).mono ?_); rintro e w3 ⟨vo, vp, rfl, ho, hp, hb⟩; rw [show numE none = 0 from rfl]; have HW := Lib.hid (sg_all sg.leaf ho hp); replace M := Lib.hid (M.out.call hb); have HO := Lib.hid ho; have HP := Lib.hid hp; clear ho hp hb)
      | (refine wpList_store_row rfl 204 (.tmp 9) (.tmp 23) rfl w3.heap.size (sgC sg.leaf vo vp) rfl rfl 204 _ (heap_alloc_new _ _) (by kernel_rfl) (by rfl) HW.out ?_; rw [World.setRow_alloc_new]; have HA := Lib.hid (below_alloc w3 (.cells (sgC sg.leaf vo vp) 204)); have SG := Lib.hid (heap_alloc_new w3 (.cells (sgC sg.leaf vo vp) 204)); replace M := Lib.hid (M.out.call HA.out); replace HO := Lib.hid (HO.out.below HA.out); replace HP := Lib.hid (HP.out.below HA.out); clear HA; generalize w3.alloc (.cells (sgC sg.leaf vo vp) 204) = w4 at *))
    obtain ⟨g, hg⟩ : ∃ g, g = w3.heap.size := ⟨_, rfl⟩
    rw [← hg] at SG ⊢
    clear hg
    obtain ⟨p0, p1⟩ := par_cells2 M.out.par
    go_upto_region 7 with (go_at_call 140; (with_reducible refine (HDG.out _ (HT.out.below M.out.below)).mono ?_); rintro e w5 ⟨vd, rfl, hd, hb⟩; have HD5 := Lib.hid hd; replace HO := Lib.hid (HO.out.below hb); replace HP := Lib.hid (HP.out.below hb); replace SG := Lib.hid ((hb.block _ (heap_lt' SG.out)).trans SG.out); replace M := Lib.hid (M.out.call hb); clear hd hb)
    clear p0 p1
    obtain ⟨pf, o1, hfr⟩ : ∃ pf o1, fromR sg.once (sg.leaf : Int) dg = (pf, o1) := ⟨_, _, rfl⟩
    have HFR := Lib.hid (show ∀ w, BytesIn w vo sg.once → BytesIn w vd dg → Calls Tryz.prog 141 #[vo, .int .i64 (sg.leaf : Int), vd] w fun e w' => e = .returned (.tuple #[.agg (rowOf .u8 32 pf), .int .i64 (numE o1)]) ∧ Below w.heap.size w w' from fun w h1 h2 => by
      have := rfrom_any vo sg.once (sg.leaf : Int) vd dg w h1 h2 HDB.out; rw [hfr] at this; exact this)
    have ho1 := fromR_no0 sg.once (sg.leaf : Int) dg
    have hsg := HSG.out sg
    rw [hfr] at hsg ho1
    clear HSG
    have HSG := Lib.hid (show (o1 = none → signerR sg D k text = foldR pf (sg.leaf : Int) n sg.path) ∧ (∀ x, o1 = some x → (signerR sg D k text).2 = some x) from
      ⟨fun h => by rw [h] at hsg; exact hsg, fun x h => by rw [h] at hsg; rw [hsg]⟩)
    clear hsg
    clear hfr
    obtain ⟨s0, s1, s2, -⟩ := sig6_cells SG.out
    go_upto_region 8 with (first
      | (go_at_call 141; (with_reducible refine (HFR.out _ HO.out HD5.out).mono ?_); rintro e w6 ⟨rfl, hb⟩; replace HP := Lib.hid (HP.out.below hb); replace SG := Lib.hid ((hb.block _ (heap_lt' SG.out)).trans SG.out); replace M := Lib.hid (M.out.call hb); clear hb)
      | (refine wpList_store_row rfl 32 (.tmp 13) (.tmp 42) rfl w6.heap.size (rowOf .u8 32 pf) rfl rfl 32 _ (heap_alloc_new _ _) (by rw [rowOf_size]; kernel_rfl) (by rw [rowOf_size]; rfl) (rowOf_one _ _ _) ?_; rw [World.setRow_alloc_new]; have HA := Lib.hid (below_alloc w6 (.cells (rowOf .u8 32 pf) 32)); replace HP := Lib.hid (HP.out.below HA.out); replace SG := Lib.hid ((HA.out.block _ (heap_lt' SG.out)).trans SG.out); replace M := Lib.hid (M.out.call HA.out); have PU := Lib.hid (RowAt.new w6 .u8 32 32 pf); clear HA; generalize w6.alloc (.cells (rowOf .u8 32 pf) 32) = w7 at *))
    clear s0 s1 s2 HO HD5 HDG HDC HDB HFR
    obtain ⟨rf, o2, hfd⟩ : ∃ rf o2, foldR pf (sg.leaf : Int) n sg.path = (rf, o2) := ⟨_, _, rfl⟩
    have HFD := Lib.hid (show ∀ w, HashesIn w vp sg.path → Calls Tryz.prog 142 #[.agg (rowOf .u8 32 pf), .int .i64 (sg.leaf : Int), .int .i64 (n : Int), vp] w fun e w' => e = .returned (.tuple #[.agg (rowOf .u8 32 rf), .int .i64 (numE o2)]) ∧ Below w.heap.size w w' from fun w h1 => by
      have := rFold_any pf (sg.leaf : Int) n sg.path vp w (by omega) h1; rw [hfd] at this; exact this)
    have ho2 := foldR_no0 pf (sg.leaf : Int) n sg.path
    rw [hfd] at HSG ho2
    clear hfd
    have HVV := Lib.hid (show verR F D k text sign = if o1 = none ∧ o2 = none ∧ eqB rf F = true then none else some 21 by
      have hv := HV.out
      rw [hv]
      show (if (signerR sg D k text).2 = none ∧ eqB (signerR sg D k text).1 F = true then none else some 21) = _
      cases o1 with
      | some x => rw [HSG.out.2 x rfl]; simp
      | none => rw [HSG.out.1 rfl]; simp)
    clear HV HSG HE3
    obtain ⟨p0, p1⟩ := par_cells2 M.out.par
    obtain ⟨s0, s1, s2, -⟩ := sig6_cells SG.out
    go_upto_region 9 with (first
      | (refine wpList_load_row rfl 32 (.tmp 13) rfl w6.heap.size rfl 32 _ (0, 0) _ PU.out Tryz.underlying32 rfl (by rw [rowOf_size]; kernel_rfl) ?_)
      | (go_at_call 142; (with_reducible refine (HFD.out _ HP.out).mono ?_); rintro e w8 ⟨rfl, hb⟩; replace M := Lib.hid (M.out.call hb); clear hb)
      | (refine wpList_store_row rfl 32 (.tmp 15) (.tmp 55) rfl w8.heap.size (rowOf .u8 32 rf) rfl rfl 32 _ (heap_alloc_new _ _) (by rw [rowOf_size]; kernel_rfl) (by rw [rowOf_size]; rfl) (rowOf_one _ _ _) ?_; rw [World.setRow_alloc_new]; have HA := Lib.hid (below_alloc w8 (.cells (rowOf .u8 32 rf) 32)); replace M := Lib.hid (M.out.call HA.out); replace PU := Lib.hid (RowAt.new w8 .u8 32 32 rf); clear HA; generalize w8.alloc (.cells (rowOf .u8 32 rf) 32) = w9 at *))
    clear p0 p1 s0 s1 s2 HP SG HFD hshl hkI hkb HT HS HC
    rcases numE_ne ho1 with rfl | ⟨x, rfl, hx, hx0⟩
    · rcases numE_ne ho2 with rfl | ⟨x, rfl, hx, hx0⟩
      · rw [show numE none = 0 from rfl]
        obtain ⟨b, hb⟩ : ∃ b, eqB rf F = b := ⟨_, rfl⟩
        have hneq : ∀ w, (binOp .neq 32 (.agg (rowOf .u8 32 rf)) (.agg (rowOf .u8 32 F))).run Tryz.prog w = .ok (.bool (!b)) w := fun w => by rw [← hb]; exact neq32 rf F w
        rw [hb] at HVV
        clear hb ho1 ho2
        cases b with
        | true =>
          simp only [Bool.not_true] at hneq
          go_wp2_with (first
            | (refine wpList_load_row_want rfl 32 (.tmp 15) rfl _ rfl .u8 32 rf _ PU.out Tryz.underlying32 rfl (by kernel_rfl) ?_)
            | (refine wpList_load_row_want rfl 32 (.tmp 4) rfl _ rfl .u8 32 F _ M.out.row Tryz.underlying32 rfl (by kernel_rfl) ?_))
          go_ret
          rw [HVV.out, if_pos (by simp)]
          exact ⟨rfl, M.out.below⟩
        | false =>
          simp only [Bool.not_false] at hneq
          go_wp2_with (first
            | (refine wpList_load_row_want rfl 32 (.tmp 15) rfl _ rfl .u8 32 rf _ PU.out Tryz.underlying32 rfl (by kernel_rfl) ?_)
            | (refine wpList_load_row_want rfl 32 (.tmp 4) rfl _ rfl .u8 32 F _ M.out.row Tryz.underlying32 rfl (by kernel_rfl) ?_))
          go_ret
          rw [HVV.out, if_neg (by simp)]
          exact ⟨rfl, M.out.below⟩
      · have hne : ((x : Int) != 0) = true := by simp; omega
        rw [show numE none = 0 from rfl, hx]
        clear ho1 ho2 hx
        go_wp2_with (fail)
        go_ret
        rw [HVV.out, if_neg (by simp)]
        exact ⟨rfl, M.out.below⟩
    · have hne : ((x : Int) != 0) = true := by simp; omega
      rw [hx]
      clear ho1 ho2 hx
      go_wp2_with (fail)
      go_ret
      rw [HVV.out, if_neg (by simp)]
      exact ⟨rfl, M.out.below⟩
theorem rkverify_any (F : Nat → Int) (D E : Int) (vt vs : Value) (text sign : List Int) (w : World) (ht : BytesIn w vt text) (htl : text.length + 81 ≤ 140737488355328) (hs : BytesIn w vs sign) (hb : bytesOk sign) (hl : sign.length ≤ 140737488351232) :
    Calls Tryz.prog 76 #[.agg (rowOf .u8 32 F), .agg (parC D E), vt, vs] w fun e w' => e = .returned (.int .i64 (numE (verR F D E text sign))) ∧ Below w.heap.size w w' := by
  by_cases h : kOk D E
  · have h2 := h
    unfold kOk at h2
    obtain ⟨k, rfl⟩ : ∃ k : Nat, E = (k : Int) := ⟨E.toNat, by omega⟩
    exact rkverify_ok F D k vt vs text sign w (by omega) (by omega) ht htl hs hb hl
  · have := rkverify_no F D E vt vs w h
    rw [show verR F D E text sign = some 20 by unfold verR; rw [if_neg h]]
    exact this
end Go.Proofs.YtjnpcmfpiejmjaaGreatDoor

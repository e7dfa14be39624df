/- Part 10 of the proof. -/
import Derived.Test.YteokgklfljhcaaaGreatDoorSe9
namespace Go.Proofs.YteokgklfljhcaaaGreatDoor
set_option linter.unusedVariables false
set_option linter.unusedSimpArgs false
open Go.RowKit
set_option maxRecDepth 100000
set_option linter.unusedSimpArgs false
set_option linter.unusedVariables false
def RuPostO (v : Value) (r : Nat × RSt) (w : World) (e : Ending) (w' : World) : Prop :=
  ∃ v', e = .returned (.tuple #[.agg (rdC v' (numE r.2.2)), .int .u64 (r.1 : Int)]) ∧ BytesIn w' v' r.2.1 ∧ v'.ownBlock = v.ownBlock ∧ Below w.heap.size w w'
def RiPostO (v : Value) (r : Int × RSt) (w : World) (e : Ending) (w' : World) : Prop :=
  ∃ v', e = .returned (.tuple #[.agg (rdC v' (numE r.2.2)), .int .i64 r.1]) ∧ BytesIn w' v' r.2.1 ∧ v'.ownBlock = v.ownBlock ∧ Below w.heap.size w w'
theorem rruintO_err (v : Value) (ys : List Int) (x most : Nat) (hx0 : 0 < x) (w : World) (hy : BytesIn w v ys) : Calls Tryz.prog 159 #[.agg (rdC v (x : Int)), .int .u64 (most : Int)] w (RuPostO v (uintS (ys, some x) most) w) := by
  obtain ⟨a, c, rfl, -⟩ := id hy
  have M := Lib.hid (r2M_start w (.slice a ys.length c) (x : Int))
  have HY := Lib.hid hy
  have he : ((x : Int) == 0) = false := by simp; omega
  have hne : ((x : Int) != 0) = true := by simp; omega
  clear hy
  go_enter Tryz.func159, Tryz.ntmps159
  go_upto_region 1 with (fail)
  rw [← r2_zero]
  generalize (w.alloc (.cells (rdC (.slice a ys.length c) (x : Int)) 104)).alloc (.cells (rdC (.slice none 0 0) 0) 104) = w1 at *
  obtain ⟨c0, c1, -⟩ := rd_cells M.out.arg
  go_wp2_with (first
    | (refine wpList_load_row rfl 104 (.tmp 2) rfl w.heap.size rfl 104 _ (0, 0) _ M.out.arg Tryz.underlying104 rfl (by kernel_rfl) ?_)
    | (refine wpList_store_row rfl 104 (.tmp 4) (.tmp 12) rfl (w.heap.size + 1) _ rfl rfl 104 _ M.out.res (by kernel_rfl) (by rfl) (rd_one _ _ _ _) ?_))
  refine bodyPost_ret (results_cell_tmp_row rfl _ _ (w.heap.size + 1) 104 (rdC (.slice a ys.length c) (x : Int)) (0, 0) _ rfl (setRow_heap _ _ _ _ _ _ M.out.res) Tryz.underlying104 rfl (by kernel_rfl)) rfl ?_
  have hb := below_setRow M.out.below (Nat.le_succ _) (rdC (.slice a ys.length c) (x : Int))
  exact ⟨_, rfl, HY.out.below hb, rfl, hb⟩
set_option maxHeartbeats 4000000 in
theorem rruintO_ok (v : Value) (ys : List Int) (most : Nat) (hm : most < 18446744073709551616) (w : World) (hy : BytesIn w v ys) (hb : bytesOk ys) (hl : ys.length ≤ 140737488355328) : Calls Tryz.prog 159 #[.agg (rdC v 0), .int .u64 (most : Int)] w (RuPostO v (uintS (ys, none) most) w) := by
  obtain ⟨a, c, rfl, hc, hcm, hx⟩ := id hy
  have M := Lib.hid (r2M_start w (.slice a ys.length c) 0)
  have HY := Lib.hid hy
  have HBY := Lib.hid hb
  have HX := Lib.hid hx
  have HMO := Lib.hid hm
  have hlI : (ys.length : Int) ≤ 140737488355328 := by omega
  clear hy hb hx hm
  go_enter Tryz.func159, Tryz.ntmps159
  go_upto_region 1 with (fail)
  rw [← r2_zero]
  generalize (w.alloc (.cells (rdC (.slice a ys.length c) 0) 104)).alloc (.cells (rdC (.slice none 0 0) 0) 104) = w1 at *
  obtain ⟨c0, c1, cf⟩ := rd_cells M.out.arg
  have HF := Lib.hid (show ∀ a (x : Int) w, Calls Tryz.prog 160 #[.agg (rdC (.slice a ys.length c) 0), .int .i64 x] w fun r w' => r = .returned (.agg (rdC (.slice a ys.length c) x)) ∧ Below w.heap.size w w' from fun a x w => by
    have h := rfail_any a ys.length c 0 x w
    rw [if_pos rfl] at h
    exact h)
  go_wp2_with (fail)
  go_loopw [6] (fun i wr => ∃ j : Nat, i = .int .i64 (j : Int) ∧ j ≤ min ys.length 10 ∧ wr = w1 ∧ Hid (rdF ys most = rdFrom ys most (min ys.length 10 - j) j)) (fun i _ => 10 - (intOf i).toNat)
  case atStart => exact ⟨0, rfl, Nat.zero_le _, rfl, Lib.hid rfl⟩
  case round =>
    obtain ⟨j, rfl, hj, rfl, HR⟩ := hrel
    by_cases hin : j < ys.length ∧ j < 10
    · obtain ⟨h1, h2⟩ := hin
      obtain ⟨ab, ao, rfl, hcell⟩ := HX.out.resolve_left (fun e => by rw [e] at h1; simp at h1)
      obtain ⟨b, hbj, hb256⟩ : ∃ b : Nat, ys[j]? = some (b : Int) ∧ b < 256 := by
        have h3 := HBY.out ys[j] (List.getElem_mem h1)
        exact ⟨ys[j].toNat, by rw [List.getElem?_eq_getElem h1]; congr 1; omega, by omega⟩
      have hgd : ys.getD j 0 = (b : Int) := by rw [List.getD_eq_getElem?_getD, hbj]; rfl
      have HST := Lib.hid (HR.out.trans (rd_step ys most j b (by omega) hgd))
      have cb : wr.cell? ⟨ab, ao + j, none⟩ = some (.int .u8 (b : Int)) := (M.out.below.cell (p := ⟨ab, ao + j, none⟩) (World.block_lt_of_cell? w _ (hcell j _ hbj))).trans (hcell j _ hbj)
      have hj1 : (j : Int) < (ys.length : Int) := by omega
      have hj2 : (j : Int) < 10 := by omega
      have HGD := Lib.hid hgd
      clear hgd hbj
      by_cases hb128 : 128 ≤ b
      · have hd : decide ((128 : Int) ≤ (b : Int)) = true := by simp; omega
        have hd2 : decide (128 ≤ b) = true := by simpa using hb128
        rw [if_neg (by omega)] at HST
        clear hb128
        go_wp2_with (fail)
        go_roundw
        case rel => exact ⟨j + 1, by go_num, by omega, trivial, HST⟩
        case measure => simp [intOf]; omega
      · have hd : decide ((128 : Int) ≤ (b : Int)) = false := by simp; omega
        have hd2 : decide (128 ≤ b) = false := by simp; omega
        rw [if_pos (by omega)] at HST
        have hb128' : b < 128 := by omega
        clear hb128
        have hj10 : ((j : Int) == 10) = false := by simp; omega
        have hjl : ((j : Int) == (ys.length : Int)) = false := by simp; omega
        by_cases hbad : (1 < j + 1 ∧ b = 0) ∨ (j + 1 = 10 ∧ 1 < b)
        · have HE := Lib.hid (show (rdF ys most).2.2 = some 3 by rw [HST.out]; unfold chk; rw [if_pos hbad])
          rcases (by omega : (j = 9 ∧ 1 < b) ∨ (j = 9 ∧ b = 0) ∨ (0 < j ∧ j ≠ 9 ∧ b = 0)) with ⟨rfl, hb1⟩ | ⟨rfl, rfl⟩ | ⟨hj0, hj9, rfl⟩
          · have q1 : decide ((1 : Int) < (b : Int)) = true := by simp; omega
            have q2 : decide (1 < b) = true := by simpa using hb1
            clear hbad hb1 HST HR
            go_wp2_with (first
              | (refine wpList_load_row rfl 104 (.tmp 2) rfl w.heap.size rfl 104 _ (0, 0) _ M.out.arg Tryz.underlying104 rfl (by kernel_rfl) ?_)
              | (go_at_call 160; (with_reducible refine (HF.out _ _ _).mono ?_); rintro e w2 ⟨rfl, hb⟩; replace M := Lib.hid (M.out.call hb); clear hb)
              | (refine wpList_store_row rfl 104 (.tmp 4) (.tmp 69) rfl (w.heap.size + 1) _ rfl rfl 104 _ M.out.res (by kernel_rfl) (by rfl) (rd_one _ _ _ _) ?_))
            refine bodyPost_ret (results_cell_tmp_row rfl _ _ (w.heap.size + 1) 104 (rdC _ 3) (0, 0) _ rfl (setRow_heap _ _ _ _ _ _ M.out.res) Tryz.underlying104 rfl (by kernel_rfl)) rfl ?_
            rw [uintS_bad (x := 3) HE.out]
            exact ⟨_, rfl, HY.out.below (below_setRow M.out.below (Nat.le_succ _) _), rfl, below_setRow M.out.below (Nat.le_succ _) _⟩
          · clear hbad HST HR
            go_wp2_with (first
              | (refine wpList_load_row rfl 104 (.tmp 2) rfl w.heap.size rfl 104 _ (0, 0) _ M.out.arg Tryz.underlying104 rfl (by kernel_rfl) ?_)
              | (go_at_call 160; (with_reducible refine (HF.out _ _ _).mono ?_); rintro e w2 ⟨rfl, hb⟩; replace M := Lib.hid (M.out.call hb); clear hb)
              | (refine wpList_store_row rfl 104 (.tmp 4) (.tmp 69) rfl (w.heap.size + 1) _ rfl rfl 104 _ M.out.res (by kernel_rfl) (by rfl) (rd_one _ _ _ _) ?_))
            refine bodyPost_ret (results_cell_tmp_row rfl _ _ (w.heap.size + 1) 104 (rdC _ 3) (0, 0) _ rfl (setRow_heap _ _ _ _ _ _ M.out.res) Tryz.underlying104 rfl (by kernel_rfl)) rfl ?_
            rw [uintS_bad (x := 3) HE.out]
            exact ⟨_, rfl, HY.out.below (below_setRow M.out.below (Nat.le_succ _) _), rfl, below_setRow M.out.below (Nat.le_succ _) _⟩
          · have q1 : ((j : Int) == 9) = false := by simp; omega
            have q3 : decide ((0 : Int) < (j : Int)) = true := by simp; omega
            have q4 : decide (0 < j) = true := by simpa using hj0
            clear hbad hj0 hj9 HST HR
            go_wp2_with (first
              | (refine wpList_load_row rfl 104 (.tmp 2) rfl w.heap.size rfl 104 _ (0, 0) _ M.out.arg Tryz.underlying104 rfl (by kernel_rfl) ?_)
              | (go_at_call 160; (with_reducible refine (HF.out _ _ _).mono ?_); rintro e w2 ⟨rfl, hb⟩; replace M := Lib.hid (M.out.call hb); clear hb)
              | (refine wpList_store_row rfl 104 (.tmp 4) (.tmp 69) rfl (w.heap.size + 1) _ rfl rfl 104 _ M.out.res (by kernel_rfl) (by rfl) (rd_one _ _ _ _) ?_))
            refine bodyPost_ret (results_cell_tmp_row rfl _ _ (w.heap.size + 1) 104 (rdC _ 3) (0, 0) _ rfl (setRow_heap _ _ _ _ _ _ M.out.res) Tryz.underlying104 rfl (by kernel_rfl)) rfl ?_
            rw [uintS_bad (x := 3) HE.out]
            exact ⟨_, rfl, HY.out.below (below_setRow M.out.below (Nat.le_succ _) _), rfl, below_setRow M.out.below (Nat.le_succ _) _⟩
        · have HST2 := Lib.hid (show rdF ys most = if most < accF ys (j + 1) then (0, 0, some 4) else (accF ys (j + 1), j + 1, none) by rw [HST.out]; unfold chk; rw [if_neg hbad])
          have hdj : dgt ys j = b % 128 := by unfold dgt; rw [HGD.out]; rfl
          obtain ⟨hac, hac2⟩ := acc_ok ys j (by omega) (fun h => by rw [hdj]; omega)
          have HACC := Lib.hid hac
          have HOR := Lib.hid (show ∀ s, s ≤ j → hor ys (j + 1 - s) s = dgt ys s + 128 * hor ys (j + 1 - (s + 1)) (s + 1) ∧ dgt ys s + 128 * hor ys (j + 1 - (s + 1)) (s + 1) < 18446744073709551616 from fun s hs => by
            have e : hor ys (j + 1 - s) s = dgt ys s + 128 * hor ys (j + 1 - (s + 1)) (s + 1) := by rw [show j + 1 - s = (j + 1 - (s + 1)) + 1 by omega]; rfl
            refine ⟨e, ?_⟩
            show dgt ys s + _ < _
            rw [← e]
            have := hor_le ys (j + 1 - s) s
            rw [show s + (j + 1 - s) = j + 1 by omega] at this
            omega)
          clear hac hac2 hdj HST HR
          rcases (by omega : (j = 9 ∧ b = 1) ∨ (0 < j ∧ j ≠ 9 ∧ 0 < b) ∨ j = 0) with ⟨hj9, hb1⟩ | ⟨hj0, hj9, hb0⟩ | hj0
          · have q1 : ((j : Int) == 9) = true := by simp; omega
            have q3 : decide ((0 : Int) < (j : Int)) = true := by simp; omega
            have q4 : decide (0 < j) = true := by simp; omega
            have q2 : decide ((1 : Int) < (b : Int)) = false := by simp; omega
            have q22 : decide (1 < b) = false := by simp; omega
            have q5 : ((b : Int) == 0) = false := by simp; omega
            clear hbad hj9 hb1
            go_wp2_with (fail)
            go_loopw [7, 8] (fun n i w2 => ∃ t : Nat, t ≤ j + 1 ∧ n = .int .u64 ((hor ys (j + 1 - t) t : Nat) : Int) ∧ i = .int .i64 (iV t) ∧ w2 = wr) (fun _ i _ => (intOf i + 1).toNat)
            case atStart => exact ⟨j + 1, Nat.le_refl _, by rw [Nat.sub_self]; rfl, rfl, rfl⟩
            case round =>
              obtain ⟨t, ht, rfl, rfl, rfl⟩ := hrel
              cases t with
              | succ s =>
                obtain ⟨b2, hb2, hb22⟩ : ∃ b2 : Nat, ys[s]? = some (b2 : Int) ∧ b2 < 256 := by
                  have h3 := HBY.out ys[s] (List.getElem_mem (by omega))
                  exact ⟨ys[s].toNat, by rw [List.getElem?_eq_getElem (by omega)]; congr 1; omega, by omega⟩
                have c2 : wr.cell? ⟨ab, ao + s, none⟩ = some (.int .u8 (b2 : Int)) := (M.out.below.cell (p := ⟨ab, ao + s, none⟩) (World.block_lt_of_cell? w _ (hcell s _ hb2))).trans (hcell s _ hb2)
                have hdg : dgt ys s = b2 % 128 := by unfold dgt; rw [List.getD_eq_getElem?_getD, hb2]; rfl
                have hH := HOR.out s (by omega)
                rw [hdg] at hH
                have HH := Lib.hid hH
                obtain ⟨H, hHd⟩ : ∃ H, H = hor ys (j + 1 - (s + 1)) (s + 1) := ⟨_, rfl⟩
                rw [← hHd] at HH ⊢
                have hsI : (s : Int) < (ys.length : Int) := by omega
                have hs0 : (0 : Int) ≤ (s : Int) := by omega
                clear hH hdg hb2 hHd
                simp only [iV]
                go_wp2_with (fail)
                go_roundw
                case rel => exact ⟨s, by omega, by rw [HH.out.1]; have h2 := HH.out.2; rw [IntWalk.u64_in ((H : Int) * 128) (by omega), IntWalk.u64_in _ (by omega)]; congr 1; omega, by cases s <;> simp, trivial⟩
                case measure => first | (simp [intOf]; done) | (simp [intOf]; omega)
              | zero =>
                have hN : hor ys (j + 1 - 0) 0 = accF ys (j + 1) := by rw [Nat.sub_zero, hor_all]; exact HACC.out.symm
                rw [hN]
                simp only [iV]
                clear hN
                obtain ⟨N, hNN⟩ : ∃ N, N = accF ys (j + 1) := ⟨_, rfl⟩
                rw [← hNN] at HST2 ⊢
                clear hNN HACC HOR
                by_cases hgt : most < N
                · rw [if_pos hgt] at HST2
                  have HE := Lib.hid (show (rdF ys most).2.2 = some 4 by rw [HST2.out])
                  have q6 : decide ((most : Int) < (N : Int)) = true := by simp; omega
                  have q7 : decide (most < N) = true := by simpa using hgt
                  clear hgt
                  go_wp2_with (first
                    | (refine wpList_load_row rfl 104 (.tmp 2) rfl w.heap.size rfl 104 _ (0, 0) _ M.out.arg Tryz.underlying104 rfl (by kernel_rfl) ?_)
                    | (go_at_call 160; (with_reducible refine (HF.out _ _ _).mono ?_); rintro e w3 ⟨rfl, hb⟩; replace M := Lib.hid (M.out.call hb); clear hb)
                    | (refine wpList_store_row rfl 104 (.tmp 4) (.tmp 89) rfl (w.heap.size + 1) _ rfl rfl 104 _ M.out.res (by kernel_rfl) (by rfl) (rd_one _ _ _ _) ?_))
                  refine bodyPost_ret (results_cell_tmp_row rfl _ _ (w.heap.size + 1) 104 (rdC _ 4) (0, 0) _ rfl (setRow_heap _ _ _ _ _ _ M.out.res) Tryz.underlying104 rfl (by kernel_rfl)) rfl ?_
                  rw [uintS_bad (x := 4) HE.out]
                  exact ⟨_, rfl, HY.out.below (below_setRow M.out.below (Nat.le_succ _) _), rfl, below_setRow M.out.below (Nat.le_succ _) _⟩
                · rw [if_neg hgt] at HST2
                  have HE := Lib.hid (show uintS (ys, none) most = (N, ys.drop (j + 1), none) by rw [uintS_good (by rw [HST2.out]), HST2.out])
                  have q6 : decide ((most : Int) < (N : Int)) = false := by simp; omega
                  have q7 : decide (most < N) = false := by simpa using hgt
                  clear hgt
                  have hsl := sliceBlo (some ⟨ab, ao, none⟩) ys.length c (j + 1) h1
                  rw [show ((j + 1 : Nat) : Int) = (j : Int) + 1 by omega] at hsl
                  have HYD := Lib.hid (HY.out.from (j + 1) h1)
                  have HLD := Lib.hid (show ys.length - (j + 1) = (ys.drop (j + 1)).length by rw [List.length_drop])
                  have f0 := cf 0
                  obtain ⟨a2, ha2⟩ : ∃ a2, a2 = cutA (some ⟨ab, ao, none⟩) c (j + 1) := ⟨_, rfl⟩
                  have HOB := Lib.hid (show (Value.slice a2 (ys.length - (j + 1)) (c - (j + 1))).ownBlock = (Value.slice (some ⟨ab, ao, none⟩) ys.length c).ownBlock by rw [ha2]; exact cut_block _ _ _ _ _ _ _)
                  rw [← ha2] at hsl HYD
                  clear ha2 cb
                  go_upto_region 20 with (fail)
                  replace M := Lib.hid (M.out.set 0 (.slice a2 (ys.length - (j + 1)) (c - (j + 1))) (v' := .slice a2 (ys.length - (j + 1)) (c - (j + 1))) (e' := 0) rfl)
                  clear c0 c1 cf f0 hsl
                  generalize World.setCell _ ⟨w.heap.size, 0, none⟩ (.slice a2 (ys.length - (j + 1)) (c - (j + 1))) = w4 at *
                  go_wp2_with (first
                    | (refine wpList_load_row rfl 104 (.tmp 2) rfl w.heap.size rfl 104 _ (0, 0) _ M.out.arg Tryz.underlying104 rfl (by kernel_rfl) ?_)
                    | (refine wpList_store_row rfl 104 (.tmp 4) (.tmp 96) rfl (w.heap.size + 1) _ rfl rfl 104 _ M.out.res (by kernel_rfl) (by rfl) (rd_one _ _ _ _) ?_))
                  refine bodyPost_ret (results_cell_tmp_row rfl _ _ (w.heap.size + 1) 104 (rdC _ 0) (0, 0) _ rfl (setRow_heap _ _ _ _ _ _ M.out.res) Tryz.underlying104 rfl (by kernel_rfl)) rfl ?_
                  rw [HE.out]
                  exact ⟨_, rfl, HYD.out.below (below_setRow M.out.below (Nat.le_succ _) _), HOB.out, below_setRow M.out.below (Nat.le_succ _) _⟩
          · have q1 : ((j : Int) == 9) = false := by simp; omega
            have q3 : decide ((0 : Int) < (j : Int)) = true := by simp; omega
            have q4 : decide (0 < j) = true := by simpa using hj0
            have q5 : ((b : Int) == 0) = false := by simp; omega
            clear hbad hb0 hj0 hj9
            go_wp2_with (fail)
            go_loopw [7, 8] (fun n i w2 => ∃ t : Nat, t ≤ j + 1 ∧ n = .int .u64 ((hor ys (j + 1 - t) t : Nat) : Int) ∧ i = .int .i64 (iV t) ∧ w2 = wr) (fun _ i _ => (intOf i + 1).toNat)
            case atStart => exact ⟨j + 1, Nat.le_refl _, by rw [Nat.sub_self]; rfl, rfl, rfl⟩
            case round =>
              obtain ⟨t, ht, rfl, rfl, rfl⟩ := hrel
              cases t with
              | succ s =>
                obtain ⟨b2, hb2, hb22⟩ : ∃ b2 : Nat, ys[s]? = some (b2 : Int) ∧ b2 < 256 := by
                  have h3 := HBY.out ys[s] (List.getElem_mem (by omega))
                  exact ⟨ys[s].toNat, by rw [List.getElem?_eq_getElem (by omega)]; congr 1; omega, by omega⟩
                have c2 : wr.cell? ⟨ab, ao + s, none⟩ = some (.int .u8 (b2 : Int)) := (M.out.below.cell (p := ⟨ab, ao + s, none⟩) (World.block_lt_of_cell? w _ (hcell s _ hb2))).trans (hcell s _ hb2)
                have hdg : dgt ys s = b2 % 128 := by unfold dgt; rw [List.getD_eq_getElem?_getD, hb2]; rfl
                have hH := HOR.out s (by omega)
                rw [hdg] at hH
                have HH := Lib.hid hH
                obtain ⟨H, hHd⟩ : ∃ H, H = hor ys (j + 1 - (s + 1)) (s + 1) := ⟨_, rfl⟩
                rw [← hHd] at HH ⊢
                have hsI : (s : Int) < (ys.length : Int) := by omega
                have hs0 : (0 : Int) ≤ (s : Int) := by omega
                clear hH hdg hb2 hHd
                simp only [iV]
                go_wp2_with (fail)
                go_roundw
                case rel => exact ⟨s, by omega, by rw [HH.out.1]; have h2 := HH.out.2; rw [IntWalk.u64_in ((H : Int) * 128) (by omega), IntWalk.u64_in _ (by omega)]; congr 1; omega, by cases s <;> simp, trivial⟩
                case measure => first | (simp [intOf]; done) | (simp [intOf]; omega)
              | zero =>
                have hN : hor ys (j + 1 - 0) 0 = accF ys (j + 1) := by rw [Nat.sub_zero, hor_all]; exact HACC.out.symm
                rw [hN]
                simp only [iV]
                clear hN
                obtain ⟨N, hNN⟩ : ∃ N, N = accF ys (j + 1) := ⟨_, rfl⟩
                rw [← hNN] at HST2 ⊢
                clear hNN HACC HOR
                by_cases hgt : most < N
                · rw [if_pos hgt] at HST2
                  have HE := Lib.hid (show (rdF ys most).2.2 = some 4 by rw [HST2.out])
                  have q6 : decide ((most : Int) < (N : Int)) = true := by simp; omega
                  have q7 : decide (most < N) = true := by simpa using hgt
                  clear hgt
                  go_wp2_with (first
                    | (refine wpList_load_row rfl 104 (.tmp 2) rfl w.heap.size rfl 104 _ (0, 0) _ M.out.arg Tryz.underlying104 rfl (by kernel_rfl) ?_)
                    | (go_at_call 160; (with_reducible refine (HF.out _ _ _).mono ?_); rintro e w3 ⟨rfl, hb⟩; replace M := Lib.hid (M.out.call hb); clear hb)
                    | (refine wpList_store_row rfl 104 (.tmp 4) (.tmp 89) rfl (w.heap.size + 1) _ rfl rfl 104 _ M.out.res (by kernel_rfl) (by rfl) (rd_one _ _ _ _) ?_))
                  refine bodyPost_ret (results_cell_tmp_row rfl _ _ (w.heap.size + 1) 104 (rdC _ 4) (0, 0) _ rfl (setRow_heap _ _ _ _ _ _ M.out.res) Tryz.underlying104 rfl (by kernel_rfl)) rfl ?_
                  rw [uintS_bad (x := 4) HE.out]
                  exact ⟨_, rfl, HY.out.below (below_setRow M.out.below (Nat.le_succ _) _), rfl, below_setRow M.out.below (Nat.le_succ _) _⟩
                · rw [if_neg hgt] at HST2
                  have HE := Lib.hid (show uintS (ys, none) most = (N, ys.drop (j + 1), none) by rw [uintS_good (by rw [HST2.out]), HST2.out])
                  have q6 : decide ((most : Int) < (N : Int)) = false := by simp; omega
                  have q7 : decide (most < N) = false := by simpa using hgt
                  clear hgt
                  have hsl := sliceBlo (some ⟨ab, ao, none⟩) ys.length c (j + 1) h1
                  rw [show ((j + 1 : Nat) : Int) = (j : Int) + 1 by omega] at hsl
                  have HYD := Lib.hid (HY.out.from (j + 1) h1)
                  have HLD := Lib.hid (show ys.length - (j + 1) = (ys.drop (j + 1)).length by rw [List.length_drop])
                  have f0 := cf 0
                  obtain ⟨a2, ha2⟩ : ∃ a2, a2 = cutA (some ⟨ab, ao, none⟩) c (j + 1) := ⟨_, rfl⟩
                  have HOB := Lib.hid (show (Value.slice a2 (ys.length - (j + 1)) (c - (j + 1))).ownBlock = (Value.slice (some ⟨ab, ao, none⟩) ys.length c).ownBlock by rw [ha2]; exact cut_block _ _ _ _ _ _ _)
                  rw [← ha2] at hsl HYD
                  clear ha2 cb
                  go_upto_region 20 with (fail)
                  replace M := Lib.hid (M.out.set 0 (.slice a2 (ys.length - (j + 1)) (c - (j + 1))) (v' := .slice a2 (ys.length - (j + 1)) (c - (j + 1))) (e' := 0) rfl)
                  clear c0 c1 cf f0 hsl
                  generalize World.setCell _ ⟨w.heap.size, 0, none⟩ (.slice a2 (ys.length - (j + 1)) (c - (j + 1))) = w4 at *
                  go_wp2_with (first
                    | (refine wpList_load_row rfl 104 (.tmp 2) rfl w.heap.size rfl 104 _ (0, 0) _ M.out.arg Tryz.underlying104 rfl (by kernel_rfl) ?_)
                    | (refine wpList_store_row rfl 104 (.tmp 4) (.tmp 96) rfl (w.heap.size + 1) _ rfl rfl 104 _ M.out.res (by kernel_rfl) (by rfl) (rd_one _ _ _ _) ?_))
                  refine bodyPost_ret (results_cell_tmp_row rfl _ _ (w.heap.size + 1) 104 (rdC _ 0) (0, 0) _ rfl (setRow_heap _ _ _ _ _ _ M.out.res) Tryz.underlying104 rfl (by kernel_rfl)) rfl ?_
                  rw [HE.out]
                  exact ⟨_, rfl, HYD.out.below (below_setRow M.out.below (Nat.le_succ _) _), HOB.out, below_setRow M.out.below (Nat.le_succ _) _⟩
          · have q1 : ((j : Int) == 9) = false := by simp; omega
            have q3 : decide ((0 : Int) < (j : Int)) = false := by simp; omega
            have q4 : decide (0 < j) = false := by simp; omega
            clear hbad hj0
            go_wp2_with (fail)
            go_loopw [7, 8] (fun n i w2 => ∃ t : Nat, t ≤ j + 1 ∧ n = .int .u64 ((hor ys (j + 1 - t) t : Nat) : Int) ∧ i = .int .i64 (iV t) ∧ w2 = wr) (fun _ i _ => (intOf i + 1).toNat)
            case atStart => exact ⟨j + 1, Nat.le_refl _, by rw [Nat.sub_self]; rfl, rfl, rfl⟩
            case round =>
              obtain ⟨t, ht, rfl, rfl, rfl⟩ := hrel
              cases t with
              | succ s =>
                obtain ⟨b2, hb2, hb22⟩ : ∃ b2 : Nat, ys[s]? = some (b2 : Int) ∧ b2 < 256 := by
                  have h3 := HBY.out ys[s] (List.getElem_mem (by omega))
                  exact ⟨ys[s].toNat, by rw [List.getElem?_eq_getElem (by omega)]; congr 1; omega, by omega⟩
                have c2 : wr.cell? ⟨ab, ao + s, none⟩ = some (.int .u8 (b2 : Int)) := (M.out.below.cell (p := ⟨ab, ao + s, none⟩) (World.block_lt_of_cell? w _ (hcell s _ hb2))).trans (hcell s _ hb2)
                have hdg : dgt ys s = b2 % 128 := by unfold dgt; rw [List.getD_eq_getElem?_getD, hb2]; rfl
                have hH := HOR.out s (by omega)
                rw [hdg] at hH
                have HH := Lib.hid hH
                obtain ⟨H, hHd⟩ : ∃ H, H = hor ys (j + 1 - (s + 1)) (s + 1) := ⟨_, rfl⟩
                rw [← hHd] at HH ⊢
                have hsI : (s : Int) < (ys.length : Int) := by omega
                have hs0 : (0 : Int) ≤ (s : Int) := by omega
                clear hH hdg hb2 hHd
                simp only [iV]
                go_wp2_with (fail)
                go_roundw
                case rel => exact ⟨s, by omega, by rw [HH.out.1]; have h2 := HH.out.2; rw [IntWalk.u64_in ((H : Int) * 128) (by omega), IntWalk.u64_in _ (by omega)]; congr 1; omega, by cases s <;> simp, trivial⟩
                case measure => first | (simp [intOf]; done) | (simp [intOf]; omega)
              | zero =>
                have hN : hor ys (j + 1 - 0) 0 = accF ys (j + 1) := by rw [Nat.sub_zero, hor_all]; exact HACC.out.symm
                rw [hN]
                simp only [iV]
                clear hN
                obtain ⟨N, hNN⟩ : ∃ N, N = accF ys (j + 1) := ⟨_, rfl⟩
                rw [← hNN] at HST2 ⊢
                clear hNN HACC HOR
                by_cases hgt : most < N
                · rw [if_pos hgt] at HST2
                  have HE := Lib.hid (show (rdF ys most).2.2 = some 4 by rw [HST2.out])
                  have q6 : decide ((most : Int) < (N : Int)) = true := by simp; omega
                  have q7 : decide (most < N) = true := by simpa using hgt
                  clear hgt
                  go_wp2_with (first
                    | (refine wpList_load_row rfl 104 (.tmp 2) rfl w.heap.size rfl 104 _ (0, 0) _ M.out.arg Tryz.underlying104 rfl (by kernel_rfl) ?_)
                    | (go_at_call 160; (with_reducible refine (HF.out _ _ _).mono ?_); rintro e w3 ⟨rfl, hb⟩; replace M := Lib.hid (M.out.call hb); clear hb)
                    | (refine wpList_store_row rfl 104 (.tmp 4) (.tmp 89) rfl (w.heap.size + 1) _ rfl rfl 104 _ M.out.res (by kernel_rfl) (by rfl) (rd_one _ _ _ _) ?_))
                  refine bodyPost_ret (results_cell_tmp_row rfl _ _ (w.heap.size + 1) 104 (rdC _ 4) (0, 0) _ rfl (setRow_heap _ _ _ _ _ _ M.out.res) Tryz.underlying104 rfl (by kernel_rfl)) rfl ?_
                  rw [uintS_bad (x := 4) HE.out]
                  exact ⟨_, rfl, HY.out.below (below_setRow M.out.below (Nat.le_succ _) _), rfl, below_setRow M.out.below (Nat.le_succ _) _⟩
                · rw [if_neg hgt] at HST2
                  have HE := Lib.hid (show uintS (ys, none) most = (N, ys.drop (j + 1), none) by rw [uintS_good (by rw [HST2.out]), HST2.out])
                  have q6 : decide ((most : Int) < (N : Int)) = false := by simp; omega
                  have q7 : decide (most < N) = false := by simpa using hgt
                  clear hgt
                  have hsl := sliceBlo (some ⟨ab, ao, none⟩) ys.length c (j + 1) h1
                  rw [show ((j + 1 : Nat) : Int) = (j : Int) + 1 by omega] at hsl
                  have HYD := Lib.hid (HY.out.from (j + 1) h1)
                  have HLD := Lib.hid (show ys.length - (j + 1) = (ys.drop (j + 1)).length by rw [List.length_drop])
                  have f0 := cf 0
                  obtain ⟨a2, ha2⟩ : ∃ a2, a2 = cutA (some ⟨ab, ao, none⟩) c (j + 1) := ⟨_, rfl⟩
                  have HOB := Lib.hid (show (Value.slice a2 (ys.length - (j + 1)) (c - (j + 1))).ownBlock = (Value.slice (some ⟨ab, ao, none⟩) ys.length c).ownBlock by rw [ha2]; exact cut_block _ _ _ _ _ _ _)
                  rw [← ha2] at hsl HYD
                  clear ha2 cb
                  go_upto_region 20 with (fail)
                  replace M := Lib.hid (M.out.set 0 (.slice a2 (ys.length - (j + 1)) (c - (j + 1))) (v' := .slice a2 (ys.length - (j + 1)) (c - (j + 1))) (e' := 0) rfl)
                  clear c0 c1 cf f0 hsl
                  generalize World.setCell _ ⟨w.heap.size, 0, none⟩ (.slice a2 (ys.length - (j + 1)) (c - (j + 1))) = w4 at *
                  go_wp2_with (first
                    | (refine wpList_load_row rfl 104 (.tmp 2) rfl w.heap.size rfl 104 _ (0, 0) _ M.out.arg Tryz.underlying104 rfl (by kernel_rfl) ?_)
                    | (refine wpList_store_row rfl 104 (.tmp 4) (.tmp 96) rfl (w.heap.size + 1) _ rfl rfl 104 _ M.out.res (by kernel_rfl) (by rfl) (rd_one _ _ _ _) ?_))
                  refine bodyPost_ret (results_cell_tmp_row rfl _ _ (w.heap.size + 1) 104 (rdC _ 0) (0, 0) _ rfl (setRow_heap _ _ _ _ _ _ M.out.res) Tryz.underlying104 rfl (by kernel_rfl)) rfl ?_
                  rw [HE.out]
                  exact ⟨_, rfl, HYD.out.below (below_setRow M.out.below (Nat.le_succ _) _), HOB.out, below_setRow M.out.below (Nat.le_succ _) _⟩
    · rcases (by omega : (j = 10 ∧ j < ys.length) ∨ (j = 10 ∧ j = ys.length) ∨ (j = ys.length ∧ j < 10)) with ⟨h10, h1⟩ | ⟨h10, h1⟩ | ⟨h1, h10⟩
      · have HE := Lib.hid (show (rdF ys most).2.2 = some 3 by rw [HR.out, show min ys.length 10 - j = 0 by omega]; unfold rdFrom; rw [if_neg (by omega)])
        have q1 : (j : Int) < (ys.length : Int) := by omega
        have q2 : ¬ (j : Int) < 10 := by omega
        have q3 : ((j : Int) == 10) = true := by simp; omega
        clear hin h10 h1 HR
        go_wp2_with (first
          | (refine wpList_load_row rfl 104 (.tmp 2) rfl w.heap.size rfl 104 _ (0, 0) _ M.out.arg Tryz.underlying104 rfl (by kernel_rfl) ?_)
          | (go_at_call 160; (with_reducible refine (HF.out _ _ _).mono ?_); rintro e w2 ⟨rfl, hb⟩; replace M := Lib.hid (M.out.call hb); clear hb)
          | (refine wpList_store_row rfl 104 (.tmp 4) (.tmp 36) rfl (w.heap.size + 1) _ rfl rfl 104 _ M.out.res (by kernel_rfl) (by rfl) (rd_one _ _ _ _) ?_))
        refine bodyPost_ret (results_cell_tmp_row rfl _ _ (w.heap.size + 1) 104 (rdC _ 3) (0, 0) _ rfl (setRow_heap _ _ _ _ _ _ M.out.res) Tryz.underlying104 rfl (by kernel_rfl)) rfl ?_
        rw [uintS_bad (x := 3) HE.out]
        exact ⟨_, rfl, HY.out.below (below_setRow M.out.below (Nat.le_succ _) _), rfl, below_setRow M.out.below (Nat.le_succ _) _⟩
      · have HE := Lib.hid (show (rdF ys most).2.2 = some 3 by rw [HR.out, show min ys.length 10 - j = 0 by omega]; unfold rdFrom; rw [if_neg (by omega)])
        have q1 : ¬ (j : Int) < (ys.length : Int) := by omega
        have q3 : ((j : Int) == 10) = true := by simp; omega
        clear hin h10 h1 HR
        go_wp2_with (first
          | (refine wpList_load_row rfl 104 (.tmp 2) rfl w.heap.size rfl 104 _ (0, 0) _ M.out.arg Tryz.underlying104 rfl (by kernel_rfl) ?_)
          | (go_at_call 160; (with_reducible refine (HF.out _ _ _).mono ?_); rintro e w2 ⟨rfl, hb⟩; replace M := Lib.hid (M.out.call hb); clear hb)
          | (refine wpList_store_row rfl 104 (.tmp 4) (.tmp 36) rfl (w.heap.size + 1) _ rfl rfl 104 _ M.out.res (by kernel_rfl) (by rfl) (rd_one _ _ _ _) ?_))
        refine bodyPost_ret (results_cell_tmp_row rfl _ _ (w.heap.size + 1) 104 (rdC _ 3) (0, 0) _ rfl (setRow_heap _ _ _ _ _ _ M.out.res) Tryz.underlying104 rfl (by kernel_rfl)) rfl ?_
        rw [uintS_bad (x := 3) HE.out]
        exact ⟨_, rfl, HY.out.below (below_setRow M.out.below (Nat.le_succ _) _), rfl, below_setRow M.out.below (Nat.le_succ _) _⟩
      · have HE := Lib.hid (show (rdF ys most).2.2 = some 12 by rw [HR.out, show min ys.length 10 - j = 0 by omega]; unfold rdFrom; rw [if_pos (by omega)])
        have q1 : ¬ (j : Int) < (ys.length : Int) := by omega
        have q3 : ((j : Int) == 10) = false := by simp; omega
        have q4 : ((j : Int) == (ys.length : Int)) = true := by simp; omega
        clear hin h10 h1 HR
        go_wp2_with (first
          | (refine wpList_load_row rfl 104 (.tmp 2) rfl w.heap.size rfl 104 _ (0, 0) _ M.out.arg Tryz.underlying104 rfl (by kernel_rfl) ?_)
          | (go_at_call 160; (with_reducible refine (HF.out _ _ _).mono ?_); rintro e w2 ⟨rfl, hb⟩; replace M := Lib.hid (M.out.call hb); clear hb)
          | (refine wpList_store_row rfl 104 (.tmp 4) (.tmp 44) rfl (w.heap.size + 1) _ rfl rfl 104 _ M.out.res (by kernel_rfl) (by rfl) (rd_one _ _ _ _) ?_))
        refine bodyPost_ret (results_cell_tmp_row rfl _ _ (w.heap.size + 1) 104 (rdC _ 12) (0, 0) _ rfl (setRow_heap _ _ _ _ _ _ M.out.res) Tryz.underlying104 rfl (by kernel_rfl)) rfl ?_
        rw [uintS_bad (x := 12) HE.out]
        exact ⟨_, rfl, HY.out.below (below_setRow M.out.below (Nat.le_succ _) _), rfl, below_setRow M.out.below (Nat.le_succ _) _⟩
theorem ruintO2_any (v : Value) (ys : List Int) (e : Option Nat) (he : e ≠ some 0) (most : Nat) (hm : most < 18446744073709551616) (w : World) (hy : BytesIn w v ys) (hb : bytesOk ys) (hl : ys.length ≤ 140737488355328) : Calls Tryz.prog 159 #[.agg (rdC v (numE e)), .int .u64 (most : Int)] w (RuPostO v (uintS (ys, e) most) w) := by
  rcases numE_ne he with rfl | ⟨x, rfl, hx, hx0⟩
  · exact rruintO_ok v ys most hm w hy hb hl
  · exact rruintO_err v ys x most hx0 w hy
set_option maxHeartbeats 1000000 in
theorem rrintO_any (v : Value) (ys : List Int) (e : Option Nat) (he : e ≠ some 0) (w : World) (hy : BytesIn w v ys) (hb : bytesOk ys) (hl : ys.length ≤ 140737488351232) : Calls Tryz.prog 125 #[.agg (rdC v (numE e))] w (RiPostO v (intS (ys, e)) w) := by
  obtain ⟨a, c, rfl, -⟩ := id hy
  have M := Lib.hid (r2M_start w (.slice a ys.length c) (numE e))
  have HY := Lib.hid hy
  have HU0 := Lib.hid (show ∀ w, BytesIn w (.slice a ys.length c) ys → Calls Tryz.prog 159 #[.agg (rdC (.slice a ys.length c) (numE e)), .int .u64 18446744073709551615] w (RuPostO (.slice a ys.length c) (uintS (ys, e) 18446744073709551615) w) from fun w h => ruintO2_any _ ys e he 18446744073709551615 (by decide) w h hb (by omega))
  have hl := uintS_lt (ys, e) 18446744073709551615
  unfold intS
  obtain ⟨n, zs, ue, hU⟩ : ∃ n zs ue, uintS (ys, e) 18446744073709551615 = (n, zs, ue) := ⟨_, _, _, rfl⟩
  rw [hU] at hl HU0 ⊢
  have HU := Lib.hid (show ∀ w, BytesIn w (.slice a ys.length c) ys → Calls Tryz.prog 159 #[.agg (rdC (.slice a ys.length c) (numE e)), .int .u64 18446744073709551615] w fun r w' => ∃ v', r = .returned (.tuple #[.agg (rdC v' (numE ue)), .int .u64 (n : Int)]) ∧ BytesIn w' v' zs ∧ v'.ownBlock = (Value.slice a ys.length c).ownBlock ∧ Below w.heap.size w w' from HU0.out)
  simp only at hl ⊢
  clear HU0 hU hy hb he
  have hm : (n : Int).tmod 2 = ((n % 2 : Nat) : Int) := by rw [Int.tmod_eq_emod_of_nonneg (by omega)]; omega
  have hq : (n : Int).tdiv 2 = ((n / 2 : Nat) : Int) := by rw [Int.tdiv_eq_ediv_of_nonneg (by omega)]; omega
  unfold unzig
  obtain ⟨en, hen⟩ : ∃ en, en = numE e := ⟨_, rfl⟩
  obtain ⟨un, hun⟩ : ∃ un, un = numE ue := ⟨_, rfl⟩
  rw [← hen, ← hun] at HU
  rw [← hen] at M ⊢
  have HUN := Lib.hid hun
  clear hen hun
  obtain ⟨k, hk⟩ : ∃ k, k = n / 2 := ⟨_, rfl⟩
  rw [← hk] at hq ⊢
  have hkb : k < 9223372036854775808 := by omega
  have hw1 : IntKind.i64.wrap (k : Int) = (k : Int) := by rw [IntKind.wrap_i64]; omega
  clear hk
  by_cases h1 : n % 2 = 1
  · rw [if_pos h1]
    rw [h1] at hm
    have hw2 : IntKind.i64.wrap (-(k : Int)) = -(k : Int) := by rw [IntKind.wrap_i64]; omega
    have hw3 : IntKind.i64.wrap (-(k : Int) - 1) = -(k : Int) - 1 := by rw [IntKind.wrap_i64]; omega
    clear h1
    go_enter Tryz.func125, Tryz.ntmps125
    go_upto_region 1 with (fail)
    rw [← r2_zero]
    generalize (w.alloc (.cells (rdC (.slice a ys.length c) en) 104)).alloc (.cells (rdC (.slice none 0 0) 0) 104) = w1 at *
    go_upto_region 2 with (first
      | (refine wpList_load_row rfl 104 (.tmp 1) rfl w.heap.size rfl 104 _ (0, 0) _ M.out.arg Tryz.underlying104 rfl (by kernel_rfl) ?_)
      | (go_at_call 159; (with_reducible refine (HU.out _ (HY.out.below M.out.below)).mono ?_); rintro e w2 ⟨v2, rfl, hx, hob, hb⟩; obtain ⟨a2, c2, rfl, hc2, -⟩ := id hx; have HOB := Lib.hid hob; clear hob; replace M := Lib.hid (M.out.call hb); have HZ := Lib.hid hx; clear hx hb hc2)
      | (refine wpList_store_row rfl 104 (.tmp 1) (.tmp 8) rfl w.heap.size _ rfl rfl 104 _ M.out.arg (by kernel_rfl) (by rfl) (rd_one _ _ _ _) ?_))
    replace HZ := Lib.hid (bytes_row HZ.out M.out.arg (rdC (.slice a2 zs.length c2) un))
    replace M := Lib.hid (M.out.put (v' := .slice a2 zs.length c2) (e' := un))
    generalize w2.setRow w.heap.size (rdC (.slice a2 zs.length c2) un) = w3 at *
    go_wp2_with (first
      | (refine wpList_load_row rfl 104 (.tmp 1) rfl w.heap.size rfl 104 _ (0, 0) _ M.out.arg Tryz.underlying104 rfl (by kernel_rfl) ?_)
      | (refine wpList_store_row rfl 104 (.tmp 2) (.tmp 13) rfl (w.heap.size + 1) _ rfl rfl 104 _ M.out.res (by kernel_rfl) (by rfl) (rd_one _ _ _ _) ?_))
    refine bodyPost_ret (results_cell_tmp_row rfl _ _ (w.heap.size + 1) 104 (rdC _ un) (0, 0) _ rfl (setRow_heap _ _ _ _ _ _ M.out.res) Tryz.underlying104 rfl (by kernel_rfl)) rfl ?_
    refine ⟨_, by rw [HUN.out]; rfl, bytes_row HZ.out M.out.res _, HOB.out, below_setRow M.out.below (Nat.le_succ _) _⟩
  · rw [if_neg h1]
    have h2 : n % 2 = 0 := by omega
    rw [h2] at hm
    clear h1 h2
    go_enter Tryz.func125, Tryz.ntmps125
    go_upto_region 1 with (fail)
    rw [← r2_zero]
    generalize (w.alloc (.cells (rdC (.slice a ys.length c) en) 104)).alloc (.cells (rdC (.slice none 0 0) 0) 104) = w1 at *
    go_upto_region 2 with (first
      | (refine wpList_load_row rfl 104 (.tmp 1) rfl w.heap.size rfl 104 _ (0, 0) _ M.out.arg Tryz.underlying104 rfl (by kernel_rfl) ?_)
      | (go_at_call 159; (with_reducible refine (HU.out _ (HY.out.below M.out.below)).mono ?_); rintro e w2 ⟨v2, rfl, hx, hob, hb⟩; obtain ⟨a2, c2, rfl, hc2, -⟩ := id hx; have HOB := Lib.hid hob; clear hob; replace M := Lib.hid (M.out.call hb); have HZ := Lib.hid hx; clear hx hb hc2)
      | (refine wpList_store_row rfl 104 (.tmp 1) (.tmp 8) rfl w.heap.size _ rfl rfl 104 _ M.out.arg (by kernel_rfl) (by rfl) (rd_one _ _ _ _) ?_))
    replace HZ := Lib.hid (bytes_row HZ.out M.out.arg (rdC (.slice a2 zs.length c2) un))
    replace M := Lib.hid (M.out.put (v' := .slice a2 zs.length c2) (e' := un))
    generalize w2.setRow w.heap.size (rdC (.slice a2 zs.length c2) un) = w3 at *
    go_wp2_with (first
      | (refine wpList_load_row rfl 104 (.tmp 1) rfl w.heap.size rfl 104 _ (0, 0) _ M.out.arg Tryz.underlying104 rfl (by kernel_rfl) ?_)
      | (refine wpList_store_row rfl 104 (.tmp 2) (.tmp 19) rfl (w.heap.size + 1) _ rfl rfl 104 _ M.out.res (by kernel_rfl) (by rfl) (rd_one _ _ _ _) ?_))
    refine bodyPost_ret (results_cell_tmp_row rfl _ _ (w.heap.size + 1) 104 (rdC _ un) (0, 0) _ rfl (setRow_heap _ _ _ _ _ _ M.out.res) Tryz.underlying104 rfl (by kernel_rfl)) rfl ?_
    refine ⟨_, by rw [HUN.out]; rfl, bytes_row HZ.out M.out.res _, HOB.out, below_setRow M.out.below (Nat.le_succ _) _⟩
end Go.Proofs.YteokgklfljhcaaaGreatDoor

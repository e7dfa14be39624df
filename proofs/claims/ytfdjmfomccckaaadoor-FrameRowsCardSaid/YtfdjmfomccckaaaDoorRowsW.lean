/- FrameRows: the walk. -/
import Derived.Test.YtfdjmfomccckaaaDoorRowSt
namespace Go.Proofs.YtfdjmfomccckaaaDoor
open Go.RowKit
set_option maxRecDepth 100000
set_option maxHeartbeats 8000000 in
theorem rows_any (y : Value) (pss : List (List Int)) (cut : Int) (w : World) (hy : BssIn w y pss) (ho : ∀ p ∈ pss, bytesOk p) (hl : ∀ p ∈ pss, p.length ≤ 140737488351232) (hT : NibAt w) :
    Calls Tryd.prog 4 #[y, .int .i64 cut] w fun e w' => e = .returned (.bool true) ∧ Below w.heap.size w w' := by
  have HT := Lib.hid hT
  have HO := Lib.hid ho
  have HL := Lib.hid hl
  obtain ⟨a, c, rfl, hc, hm, hx⟩ := hy
  have HX := Lib.hid hx
  have HR0 := Lib.hid (R1.nil w)
  have hm' : pss.length ≤ 9223372036854775807 := hm
  clear hT ho hl hx hc hm
  go_enter Tryd.func4, Tryd.ntmps4
  go_wp2
  go_loopw [5, 6, 7, 8] (fun va vw ve i wr => ∃ k : Nat, k ≤ pss.length ∧ k ≤ 20 ∧ i = .int .i64 k ∧ Hid (R1At w (good (pss.take k)) va vw ve wr)) (fun _ _ _ i _ => 20 - (intOf i).toNat)
  case atStart => exact ⟨0, Nat.zero_le _, by omega, rfl, HR0.out⟩
  case round =>
    clear HR0
    obtain ⟨k, hk, hk20, rfl, HR⟩ := hrel
    by_cases hin : k < pss.length ∧ k < 20
    · obtain ⟨hlt, hlt20⟩ := hin
      have hltI : (k : Int) < (pss.length : Int) := by omega
      have hlt20I : (k : Int) < 20 := by omega
      obtain ⟨p, hp⟩ : ∃ p, pss[k]? = some p := ⟨_, List.getElem?_eq_getElem hlt⟩
      have hpm := List.mem_of_getElem? hp
      rcases HX.out with h0 | ⟨b1, o1, rfl, h1⟩
      · rw [h0] at hlt; simp at hlt
      obtain ⟨u, hu1, hb1⟩ := h1 k p hp
      obtain ⟨ua, uc, rfl, -, -, -⟩ := id hb1
      have HPO := Lib.hid (HO.out p hpm)
      have HPL := Lib.hid (HL.out p hpm)
      have HG := Lib.hid (good_snoc pss k p hp)
      have HB := Lib.hid (show Below w.heap.size w wr by obtain ⟨vs, h⟩ := HR.out; exact h.below)
      have HUC := Lib.hid (fun (W : World) (hb : Below w.heap.size w W) => (hb.cell (p := ⟨b1, o1 + k, none⟩) (World.block_lt_of_cell? w _ hu1)).trans hu1)
      have HUB := Lib.hid hb1
      have hcell := HUC.out wr HB.out
      clear h1 hu1 hb1 hp hpm
      by_cases h0 : p.length = 0
      · have HX0 := Lib.hid h0
        have HK0 := Lib.hid (show good (pss.take (k + 1)) = good (pss.take k) by rw [HG.out, if_neg (fun h => absurd ((okP_iff p).1 h) (by omega)), List.append_nil])
        clear h0 HG
        go_wp2_with (first
          | (go_at_call 7; (with_reducible refine (sp_twin _ p wr wr (HUB.out.below HB.out) HPL.out (Below.refl _ _)).mono ?_); rintro e w1 ⟨v1, rfl, h1, hb1⟩; have H1 := Lib.hid h1; have HB1 := Lib.hid hb1; clear h1 hb1)
          | (go_at_call 8; (with_reducible refine (frame_nil v1 p w1 H1.out HX0.out).mono ?_); rintro e w2 ⟨rfl, rfl⟩))
        go_roundw
        case rel => exact ⟨k + 1, by omega, by omega, by go_num, by rw [HK0.out]; exact HR.out.later HB1.out⟩
        case measure => simp [intOf]; omega
      by_cases hbig : 1048576 < p.length
      · have h0 := hbig
        clear hbig
        have HX0 := Lib.hid h0
        have HK0 := Lib.hid (show good (pss.take (k + 1)) = good (pss.take k) by rw [HG.out, if_neg (fun h => absurd ((okP_iff p).1 h) (by omega)), List.append_nil])
        clear h0 HG
        go_wp2_with (first
          | (go_at_call 7; (with_reducible refine (sp_twin _ p wr wr (HUB.out.below HB.out) HPL.out (Below.refl _ _)).mono ?_); rintro e w1 ⟨v1, rfl, h1, hb1⟩; have H1 := Lib.hid h1; have HB1 := Lib.hid hb1; clear h1 hb1)
          | (go_at_call 8; (with_reducible refine (frame_long v1 p w1 H1.out HX0.out).mono ?_); rintro e w2 ⟨rfl, rfl⟩))
        go_roundw
        case rel => exact ⟨k + 1, by omega, by omega, by go_num, by rw [HK0.out]; exact HR.out.later HB1.out⟩
        case measure => simp [intOf]; omega
      obtain ⟨vs, HS⟩ := HR.out
      have HX0 := Lib.hid h0
      have HX1 := Lib.hid (show p.length ≤ 1048576 by omega)
      have HK0 := Lib.hid (show good (pss.take (k + 1)) = good (pss.take k) ++ [p] by rw [HG.out, if_pos ((okP_iff p).2 ⟨h0, by omega⟩)])
      have HG0 := Lib.hid (good_mem (k := k) HO.out)
      have HGL := Lib.hid (good_len pss k)
      have HCL := Lib.hid (catR_le (good (pss.take k)) fun q hq => (HG0.out q hq).2.2)
      replace HS := Lib.hid HS
      clear h0 hbig HG HR
      generalize hG : good (pss.take k) = G at *
      clear hG
      go_wp2_with (first
        | (go_at_call 7; (with_reducible refine (sp_twin _ p wr wr (HUB.out.below HB.out) HPL.out (Below.refl _ _)).mono ?_); rintro e w1 ⟨v1, rfl, h1, hb1⟩; have H1 := Lib.hid h1; have HB1 := Lib.hid hb1; clear h1 hb1)
        | (go_at_call 8; (with_reducible refine (sp_frame v1 p wr w1 ((HT.out.below HB.out HT.out.lt).below HB1.out (HT.out.below HB.out HT.out.lt).lt) H1.out HPO.out HX0.out HX1.out HB1.out).mono ?_); rintro e w2 ⟨g, c2, rfl, h2, hb2⟩; have H2 := Lib.hid (owns_in h2 (by rw [recF_length]; have := HX1.out; unfold maxLen; omega)); replace HS := Lib.hid (show R1 w G _ _ _ vs w2 from ⟨kept_below HS.out.all hb2, kept_below HS.out.want hb2, HS.out.wl, kept_below HS.out.ends hb2, HS.out.below.trans (hb2.mono HS.out.below.size)⟩); clear h2 hb2)
        | (at_builtin; refine wpList_append_bytes rfl (.tmp 41) (.tmp 42) rfl rfl w.heap.size _ _ _ rfl HS.out.all _ (recF p) rfl H2.out (by rw [recF_length]; have := HX1.out; have := HCL.out; have := HGL.out; omega) HS.out.below.size ?_; intro va' w3 o3 g3 _; obtain ⟨q1, q2, q3, q4, q5⟩ := HS.out.three o3 g3; have A3 := Lib.hid q1; have W3 := Lib.hid q2; have E3 := Lib.hid q3; have B3 := Lib.hid q4; have Z3 := Lib.hid q5; have hcell3 := HUC.out w3 q4; obtain ⟨a3, c3, rfl⟩ := owns_wide o3; clear o3 g3 q1 q2 q3 q4 q5)
        | (at_builtin; refine wpList_append_slice rfl (.tmp 44) (.tmp 49) rfl rfl w.heap.size _ vs rfl (W3.out.alloc _) ⟨w3.heap.size, 0, none⟩ (.slice ua p.length uc) rfl (by rw [cell_of_row _ _ _ _ _ _ (heap_alloc_new w3 _)]; rfl) rfl (by have := HS.out.wl.1; have := HGL.out; omega) (Nat.le_trans Z3.out (by simp)) ?_; intro vw' w4 o4 g4 _; obtain ⟨q1, q2, q3, q4, q5⟩ := R1.four _ HS.out.wl HUB.out A3.out W3.out E3.out B3.out o4 g4; have A4 := Lib.hid q1; have W4 := Lib.hid o4; have E4 := Lib.hid q2; have B4 := Lib.hid q3; have Z4 := Lib.hid q4; have L4 := Lib.hid q5; clear o4 g4 q1 q2 q3 q4 q5 hcell3)
        | (at_builtin; refine wpList_append_int rfl (.tmp 51) (.tmp 54) rfl rfl w.heap.size _ (endsF G) rfl (E4.out.alloc _) ⟨w4.heap.size, 0, none⟩ (((catR (G ++ [p])).length : Nat) : Int) rfl (by rw [cell_of_row _ _ _ _ _ _ (heap_alloc_new w4 _)]; rw [catR_append]; simp [catR]) (by rw [endsF_length]; have := HGL.out; omega) (Nat.le_trans Z4.out (by simp)) ?_; intro ve' w5 o5 g5; have H5 := Lib.hid (R1.five _ A4.out W4.out E4.out B4.out L4.out o5 g5); clear o5 g5))
      go_roundw
      case rel => exact ⟨k + 1, by omega, by omega, by go_num, by rw [HK0.out]; exact H5.out⟩
      case measure => simp [intOf]; omega
    · obtain ⟨vs, HS⟩ := HR.out
      have HG0 := Lib.hid (good_mem (k := k) HO.out)
      have HGL := Lib.hid (show (good (pss.take k)).length ≤ 20 from Nat.le_trans (good_len pss k) hk20)
      clear HR
      generalize hG : good (pss.take k) = G at *
      clear hG
      have HCL := Lib.hid (catR_le G fun q hq => (HG0.out q hq).2.2)
      have hLb : (catR G).length ≤ 20971760 := by have := HCL.out; have := HGL.out; omega
      obtain ⟨aa, ca, rfl, hca, -⟩ := owns_cells HS.all
      obtain ⟨aw, cw, rfl, hcw, -⟩ := owns_cells HS.want
      have HA0 := owns_in HS.all (by unfold maxLen; omega)
      have HW := Lib.hid (lists_in HS.want ⟨HS.wl.1, fun i u p hu hp => (HS.wl.2 i u p hu hp).below (by have := HS.below; exact this)⟩ (by have := HGL.out; unfold maxLen; omega))
      have hwl := HS.wl.1
      have HE := Lib.hid HS.ends
      have HB := Lib.hid HS.below
      rw [endsF_length] at HE
      obtain ⟨ae, ce, rfl, -, -⟩ := owns_cells HS.ends
      rw [endsF_length] at HE ⊢
      clear HS
      obtain ⟨m, e1⟩ : ∃ m : Nat, IntKind.u64.wrap cut = (m : Int) := ⟨(cut % 18446744073709551616).toNat, by rw [IntKind.wrap_u64]; omega⟩
      obtain ⟨q, hq, e2, e3⟩ : ∃ q : Nat, q ≤ (catR G).length ∧ (m : Int).tmod (((catR G).length : Int) + 1) = (q : Int) ∧ (m : Int) % (((catR G).length : Int) + 1) = (q : Int) :=
        ⟨m % ((catR G).length + 1), by have := Nat.mod_lt m (show 0 < (catR G).length + 1 by omega); omega, by rw [Int.tmod_eq_emod_of_nonneg (by omega)]; exact (Int.natCast_emod _ _).symm, (Int.natCast_emod _ _).symm⟩
      rw [hwl] at HW hcw ⊢
      clear hwl
      have s1 := sliceBhi aa (catR G).length ca q (by omega)
      have HTT := Lib.hid (torn_num 12 true (by decide))
      have C1 := Lib.hid (rows_scan _ G w wr (HT.out.below HB.out HT.out.lt) HA0 HG0.out HGL.out HB.out)
      have C2 := Lib.hid (fun W hT hA hb => rows_scan_cut (.slice (cutA aa ca 0) q ca) G q w W hT hA HG0.out HGL.out hq hb)
      have HA := Lib.hid (HA0.upto q hq)
      have HIFF := Lib.hid (cutJ_iff G q)
      have HJL := Lib.hid (cutJ_le G q)
      generalize cutJ G q = J at *
      have s2 := sliceBsHi aw G.length cw J (by have := HJL.out; omega)
      clear HA0
      by_cases hEq : (catR (G.take J)).length = q
      all_goals
        first
          | (rw [if_pos hEq] at C2; have hEb : ((((catR (G.take J)).length : Nat) : Int) == (q : Int)) = true := by rw [hEq]; simp)
          | (rw [if_neg hEq] at C2; have hEb : ((((catR (G.take J)).length : Nat) : Int) == (q : Int)) = false := by simp; omega)
        simp only [errV] at C2
        clear hEq
        by_cases hlt : k < pss.length
        · have hltI : (k : Int) < (pss.length : Int) := by omega
          have hlt20I : ¬ (k : Int) < 20 := by omega
          clear hin
          go_wp2_with (first
          | (go_at_call 12; (with_reducible refine C1.out.mono ?_); rintro e w1 ⟨v1, rfl, hx1, hb1, hbw⟩; have X1 := Lib.hid hx1; have HB1 := Lib.hid hb1; replace HW := Lib.hid (HW.out.below hbw); replace HE := Lib.hid (kept_below HE.out hbw); replace HA := Lib.hid (HA.out.below hbw); clear hx1 hb1 hbw)
          | (go_at_call 12; (with_reducible refine (C2.out w1 (HT.out.below HB1.out HT.out.lt) HA.out HB1.out).mono ?_); rintro e w2 ⟨v2, rfl, hx2, hb2, hbw⟩; have X2 := Lib.hid hx2; have HB2 := Lib.hid hb2; replace X1 := Lib.hid (X1.out.below hbw); replace HW := Lib.hid (HW.out.below hbw); replace HE := Lib.hid (kept_below HE.out hbw); clear hx2 hb2 hbw))
          go_loop [18, 19] (fun i e => ∃ j : Nat, j ≤ J ∧ i = .int .i64 j ∧ e = .int .i64 (((catR (G.take j)).length : Nat) : Int)) (fun i _ => J - (intOf i).toNat)
          case atStart => exact ⟨0, Nat.zero_le _, rfl, by simp [catR]⟩
          case round =>
            obtain ⟨j, hj, rfl, rfl⟩ := hrel
            by_cases hjJ : j < J
            · have hjG : j < G.length := by have := HJL.out; omega
              have hjI : (j : Int) < (G.length : Int) := by omega
              obtain ⟨ge, rfl, hcell⟩ := ends_cell HE.out j hjG
              have hle : ((((catR (G.take (j + 1))).length : Nat) : Int) ≤ (q : Int)) := by have := (HIFF.out j hjG).2 hjJ; omega
              have hJb : J ≤ 20 := by have := HJL.out; have := HGL.out; omega
              go_wp2_with (fail)
              go_round
              case rel => exact ⟨j + 1, hjJ, by go_num, rfl⟩
              case measure => simp [intOf]; omega
            obtain rfl : j = J := by omega
            clear hj hjJ
            by_cases hjG : j < G.length
            · have hjI : (j : Int) < (G.length : Int) := by omega
              obtain ⟨ge, rfl, hcell⟩ := ends_cell HE.out j hjG
              have hle : ¬ ((((catR (G.take (j + 1))).length : Nat) : Int) ≤ (q : Int)) := by
                intro h
                have := (HIFF.out j hjG).1 (by omega)
                omega
              go_wp2_with (first
                | (go_at_call 15; (with_reducible refine (rows_lists _ _ G w _ X1.out HW.out HGL.out HB2.out).mono ?_); rintro e w3 ⟨rfl, hb3, hbw⟩; have HB3 := Lib.hid hb3; replace X2 := Lib.hid (X2.out.below hbw); replace HW := Lib.hid (HW.out.below hbw); clear hb3 hbw)
                | (go_at_call 15; (with_reducible refine (rows_lists _ _ (G.take j) w w3 X2.out (HW.out.cut0 j HJL.out) (by rw [List.length_take]; have := HGL.out; omega) HB3.out).mono ?_); rintro e w4 ⟨rfl, hb4, hbw⟩; have HB4 := Lib.hid hb4; clear hb4 hbw)
                | (go_at_call 16; (with_reducible refine (HTT.out _).mono ?_); rintro e w5 ⟨rfl, rfl⟩)
                | (go_at_call 19; (with_reducible refine (sp_sure w w4 (HT.out.below HB4.out HT.out.lt) HB4.out).mono ?_); rintro e w6 ⟨rfl, hb6⟩; have HB6 := Lib.hid hb6; clear hb6))
              go_ret
              exact ⟨rfl, HB6.out⟩
            · have hjI : ¬ (j : Int) < (G.length : Int) := by omega
              go_wp2_with (first
                | (go_at_call 15; (with_reducible refine (rows_lists _ _ G w _ X1.out HW.out HGL.out HB2.out).mono ?_); rintro e w3 ⟨rfl, hb3, hbw⟩; have HB3 := Lib.hid hb3; replace X2 := Lib.hid (X2.out.below hbw); replace HW := Lib.hid (HW.out.below hbw); clear hb3 hbw)
                | (go_at_call 15; (with_reducible refine (rows_lists _ _ (G.take j) w w3 X2.out (HW.out.cut0 j HJL.out) (by rw [List.length_take]; have := HGL.out; omega) HB3.out).mono ?_); rintro e w4 ⟨rfl, hb4, hbw⟩; have HB4 := Lib.hid hb4; clear hb4 hbw)
                | (go_at_call 16; (with_reducible refine (HTT.out _).mono ?_); rintro e w5 ⟨rfl, rfl⟩)
                | (go_at_call 19; (with_reducible refine (sp_sure w w4 (HT.out.below HB4.out HT.out.lt) HB4.out).mono ?_); rintro e w6 ⟨rfl, hb6⟩; have HB6 := Lib.hid hb6; clear hb6))
              go_ret
              exact ⟨rfl, HB6.out⟩
        · have hltI : ¬ (k : Int) < (pss.length : Int) := by omega
          clear hin
          go_wp2_with (first
          | (go_at_call 12; (with_reducible refine C1.out.mono ?_); rintro e w1 ⟨v1, rfl, hx1, hb1, hbw⟩; have X1 := Lib.hid hx1; have HB1 := Lib.hid hb1; replace HW := Lib.hid (HW.out.below hbw); replace HE := Lib.hid (kept_below HE.out hbw); replace HA := Lib.hid (HA.out.below hbw); clear hx1 hb1 hbw)
          | (go_at_call 12; (with_reducible refine (C2.out w1 (HT.out.below HB1.out HT.out.lt) HA.out HB1.out).mono ?_); rintro e w2 ⟨v2, rfl, hx2, hb2, hbw⟩; have X2 := Lib.hid hx2; have HB2 := Lib.hid hb2; replace X1 := Lib.hid (X1.out.below hbw); replace HW := Lib.hid (HW.out.below hbw); replace HE := Lib.hid (kept_below HE.out hbw); clear hx2 hb2 hbw))
          go_loop [18, 19] (fun i e => ∃ j : Nat, j ≤ J ∧ i = .int .i64 j ∧ e = .int .i64 (((catR (G.take j)).length : Nat) : Int)) (fun i _ => J - (intOf i).toNat)
          case atStart => exact ⟨0, Nat.zero_le _, rfl, by simp [catR]⟩
          case round =>
            obtain ⟨j, hj, rfl, rfl⟩ := hrel
            by_cases hjJ : j < J
            · have hjG : j < G.length := by have := HJL.out; omega
              have hjI : (j : Int) < (G.length : Int) := by omega
              obtain ⟨ge, rfl, hcell⟩ := ends_cell HE.out j hjG
              have hle : ((((catR (G.take (j + 1))).length : Nat) : Int) ≤ (q : Int)) := by have := (HIFF.out j hjG).2 hjJ; omega
              have hJb : J ≤ 20 := by have := HJL.out; have := HGL.out; omega
              go_wp2_with (fail)
              go_round
              case rel => exact ⟨j + 1, hjJ, by go_num, rfl⟩
              case measure => simp [intOf]; omega
            obtain rfl : j = J := by omega
            clear hj hjJ
            by_cases hjG : j < G.length
            · have hjI : (j : Int) < (G.length : Int) := by omega
              obtain ⟨ge, rfl, hcell⟩ := ends_cell HE.out j hjG
              have hle : ¬ ((((catR (G.take (j + 1))).length : Nat) : Int) ≤ (q : Int)) := by
                intro h
                have := (HIFF.out j hjG).1 (by omega)
                omega
              go_wp2_with (first
                | (go_at_call 15; (with_reducible refine (rows_lists _ _ G w _ X1.out HW.out HGL.out HB2.out).mono ?_); rintro e w3 ⟨rfl, hb3, hbw⟩; have HB3 := Lib.hid hb3; replace X2 := Lib.hid (X2.out.below hbw); replace HW := Lib.hid (HW.out.below hbw); clear hb3 hbw)
                | (go_at_call 15; (with_reducible refine (rows_lists _ _ (G.take j) w w3 X2.out (HW.out.cut0 j HJL.out) (by rw [List.length_take]; have := HGL.out; omega) HB3.out).mono ?_); rintro e w4 ⟨rfl, hb4, hbw⟩; have HB4 := Lib.hid hb4; clear hb4 hbw)
                | (go_at_call 16; (with_reducible refine (HTT.out _).mono ?_); rintro e w5 ⟨rfl, rfl⟩)
                | (go_at_call 19; (with_reducible refine (sp_sure w w4 (HT.out.below HB4.out HT.out.lt) HB4.out).mono ?_); rintro e w6 ⟨rfl, hb6⟩; have HB6 := Lib.hid hb6; clear hb6))
              go_ret
              exact ⟨rfl, HB6.out⟩
            · have hjI : ¬ (j : Int) < (G.length : Int) := by omega
              go_wp2_with (first
                | (go_at_call 15; (with_reducible refine (rows_lists _ _ G w _ X1.out HW.out HGL.out HB2.out).mono ?_); rintro e w3 ⟨rfl, hb3, hbw⟩; have HB3 := Lib.hid hb3; replace X2 := Lib.hid (X2.out.below hbw); replace HW := Lib.hid (HW.out.below hbw); clear hb3 hbw)
                | (go_at_call 15; (with_reducible refine (rows_lists _ _ (G.take j) w w3 X2.out (HW.out.cut0 j HJL.out) (by rw [List.length_take]; have := HGL.out; omega) HB3.out).mono ?_); rintro e w4 ⟨rfl, hb4, hbw⟩; have HB4 := Lib.hid hb4; clear hb4 hbw)
                | (go_at_call 16; (with_reducible refine (HTT.out _).mono ?_); rintro e w5 ⟨rfl, rfl⟩)
                | (go_at_call 19; (with_reducible refine (sp_sure w w4 (HT.out.below HB4.out HT.out.lt) HB4.out).mono ?_); rintro e w6 ⟨rfl, hb6⟩; have HB6 := Lib.hid hb6; clear hb6))
              go_ret
              exact ⟨rfl, HB6.out⟩
end Go.Proofs.YtfdjmfomccckaaaDoor

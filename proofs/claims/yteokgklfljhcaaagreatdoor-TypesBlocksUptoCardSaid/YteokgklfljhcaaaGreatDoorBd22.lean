/- Part 22 of the proof. -/
import Derived.Test.YteokgklfljhcaaaGreatDoorBd15
import Derived.Test.YteokgklfljhcaaaGreatDoorBd19
import Derived.Test.YteokgklfljhcaaaGreatDoorBd21
namespace Go.Proofs.YteokgklfljhcaaaGreatDoor
set_option linter.unusedVariables false
set_option linter.unusedSimpArgs false
open Go.RowKit
set_option maxRecDepth 100000
set_option linter.unusedSimpArgs false
set_option linter.unusedVariables false
/-- a block as an argument in memory -/
structure RkX (q : Nat) (HC CC : Array Value) (tv vv : Value) (ts : List Tb) (l : List Vo) (w : World) : Prop where
  h : w.heap[q]? = some (.cells (bkD HC tv CC) 31 (0, 0))
  t : TbIn w tv ts
  tb : ∀ t ∈ ts, BytesIn w t.bv t.bs
  v : VoIn w vv l
  s : ∀ t ∈ l, BytesIn w t.sv t.sign
theorem kept_rkx (q : Nat) (HC CC : Array Value) (tv vv : Value) (ts : List Tb) (l : List Vo) : Kept (RkX q HC CC tv vv ts l) := fun _ _ m h => ⟨kept_blk _ _ _ _ m.h h, m.t.below h, fun t ht => (m.tb t ht).below h, m.v.below h, fun t ht => (m.s t ht).below h⟩
set_option maxHeartbeats 8000000 in
theorem rrefbk_any (b : Value) (bs : List Int) (h : Hd) (ts : List Tb) (tv : Value) (c : Cm) (l : List Vo) (vv : Value) (w : World) (hb : BytesIn w b bs) (hh : HdFl h) (ht : TbIn w tv ts) (hts : ∀ t ∈ ts, BytesIn w t.bv t.bs) (hl : VoIn w vv l) (hs : ∀ t ∈ l, BytesIn w t.sv t.sign) (ho : ∀ t ∈ l, VoFl t) (hc : CmFl c) (room : bs.length + (bkL h ts c l).length + 800 ≤ 140737488355328) :
    Calls Tryz.prog 14 #[b, .agg (bkD (hdD h.CH h.HT h.TM h.LA h.AP h.TX h.VA h.NX h.PR) tv (cmC c vv))] w fun e w' => ∃ vb, e = .returned vb ∧ BytesIn w' vb (bs ++ bkL h ts c l) ∧ Below w.heap.size w w' := by
  obtain ⟨la, lc, rfl, -, hlm⟩ := ht.len
  have HR := Lib.hid (show bs.length + ((hdL h.CH h.HT h.TM h.LA h.AP h.TX h.VA h.NX h.PR).length + ((varint ts.length).length + (catL tb1 ts).length) + (cmL c l).length) + 800 ≤ 140737488355328 from by simp only [bkL, listL, List.length_append] at room; omega)
  have HHS := Lib.hid (hdD_size h.CH h.HT h.TM h.LA h.AP h.TX h.VA h.NX h.PR)
  have HWH := Lib.hid (fun w hb => rrefhdr_any b bs h.CH h.HT h.TM h.LA h.AP h.TX h.VA h.NX h.PR w hb hh.ht hh.tm hh.pr (by have := HR.out; omega))
  have HWC := Lib.hid (fun y ys w a1 a2 a3 room => rrefcm_any y ys c l vv w a1 a2 a3 ho hc room)
  obtain ⟨HC, hHC⟩ : ∃ x, x = hdD h.CH h.HT h.TM h.LA h.AP h.TX h.VA h.NX h.PR := ⟨_, rfl⟩
  rw [← hHC] at HHS HWH ⊢
  obtain ⟨CC, hCC⟩ : ∃ x, x = cmC c vv := ⟨_, rfl⟩
  have HCS := Lib.hid ((congrArg Array.size hCC).trans (cmC_size c vv))
  rw [← hCC] at HWC ⊢
  obtain ⟨LH, hLH⟩ : ∃ x, x = hdL h.CH h.HT h.TM h.LA h.AP h.TX h.VA h.NX h.PR := ⟨_, rfl⟩
  have HLH := Lib.hid (show bkL h ts c l = LH ++ (listL tb1 ts ++ cmL c l) from by rw [hLH]; rfl)
  rw [← hLH] at HWH HR
  have hb1 := below_alloc w (.cells (bkD HC (.slice la ts.length lc) CC) 31)
  have M := Lib.hid (show Kp w (w.alloc (.cells (bkD HC (.slice la ts.length lc) CC) 31)) (RkX w.heap.size HC CC (.slice la ts.length lc) vv ts l) from ⟨hb1, ⟨heap_alloc_new _ _, ht.below hb1, fun t m => (hts t m).below hb1, hl.below hb1, fun t m => (hs t m).below hb1⟩, kept_rkx _ _ _ _ _ _ _⟩)
  have HX := Lib.hid (hb.below hb1)
  have V3 := Lib.hid (glenT (n := ts.length) (by unfold maxLen at hlm; omega))
  obtain ⟨nl, hnl⟩ : ∃ n, n = ts.length := ⟨_, rfl⟩
  have HNL := Lib.hid hnl
  rw [← hnl] at M HX HR V3 hlm ⊢
  have hnlI : (nl : Int) ≤ 9223372036854775807 := by unfold maxLen at hlm; omega
  have hu : IntKind.u64.wrap (nl : Int) = (nl : Int) := IntWalk.u64_in _ (by omega)
  have hn64 : nl < 18446744073709551616 := by unfold maxLen at hlm; omega
  clear hb hl hs ho hc room hlm hb1 hnl hh ht hts hHC hCC hLH
  go_enter Tryz.func14, Tryz.ntmps14
  go_upto_region 1 with (fail)
  obtain ⟨q, hq⟩ : ∃ q, q = w.heap.size := ⟨_, rfl⟩
  rw [← hq] at M ⊢
  clear hq
  generalize w.alloc (.cells (bkD HC (.slice la nl lc) CC) 31) = w0 at *
  refine wp_region_T (fun W => Kp w W (RkX q HC CC (.slice la nl lc) vv ts l)) [0, 1, 2, 3, 4, 5, 6, 7, 8, 9] (by kernel_rfl) ?_
  replace M := Lib.hid (M.out.call (Below.refl _ _).drew)
  replace HX := Lib.hid (HX.out.below (Below.refl _ _).drew)
  generalize World.drew _ = d0 at *
  refine anyT_take [] (i := 0) (v := b) rfl (by kernel_rfl) (by kernel_rfl) (by kernel_rfl) (fun _ _ _ h => h) (by kernel_rfl) (Or.inl ⟨by rfl, fun w' _ => by go_simp⟩) M.out ?_
  try simp only [List.getElem_toArray, List.getElem_cons_succ, List.getElem_cons_zero, Act.put, List.setIfInBounds_toArray, List.set_cons_zero, List.set_cons_succ]
  refine anyT_take [] (i := 1) (v := .pointer (some ⟨q, 0, none⟩)) rfl (by kernel_rfl) (by kernel_rfl) (by kernel_rfl) (fun _ _ _ h => h) (by kernel_rfl) (Or.inl ⟨by rfl, fun w' _ => by go_simp⟩) M.out ?_
  try simp only [List.getElem_toArray, List.getElem_cons_succ, List.getElem_cons_zero, Act.put, List.setIfInBounds_toArray, List.set_cons_zero, List.set_cons_succ]
  refine anyT_take [] (i := 4) (v := .pointer (some ⟨q, 164, none⟩)) rfl (by kernel_rfl) (by kernel_rfl) (by kernel_rfl) (fun _ _ _ h => h) (by kernel_rfl) (Or.inl ⟨by rfl, fun w' _ => by go_simp⟩) M.out ?_
  try simp only [List.getElem_toArray, List.getElem_cons_succ, List.getElem_cons_zero, Act.put, List.setIfInBounds_toArray, List.set_cons_zero, List.set_cons_succ]
  refine anyT_take [] (i := 2) (v := .agg HC) rfl (by kernel_rfl) (by kernel_rfl) (by kernel_rfl) (fun _ _ _ h => h) (by kernel_rfl) (rowT_yields (by rfl) 25 (.tmp 7) rfl q 0 rfl _ _ (fun _ h => bk_h h.x.h HHS.out) Tryz.underlying25 rfl (by rw [HHS.out]; kernel_rfl)) M.out ?_
  try simp only [List.getElem_toArray, List.getElem_cons_succ, List.getElem_cons_zero, Act.put, List.setIfInBounds_toArray, List.set_cons_zero, List.set_cons_succ]
  refine anyT_take [] (i := 5) (v := .slice la nl lc) rfl (by kernel_rfl) (by kernel_rfl) (by kernel_rfl) (fun _ _ _ h => h) (by kernel_rfl) (Or.inl ⟨by rfl, fun w' hS => by have c := bk_t hS.x.h HHS.out; go_simp⟩) M.out ?_
  try simp only [List.getElem_toArray, List.getElem_cons_succ, List.getElem_cons_zero, Act.put, List.setIfInBounds_toArray, List.set_cons_zero, List.set_cons_succ]
  refine anyT_take [] (i := 6) (v := .int .i64 (nl : Int)) rfl (by kernel_rfl) (by kernel_rfl) (by kernel_rfl) (fun _ _ _ h => h) (by kernel_rfl) (Or.inl ⟨by rfl, fun w' _ => by go_simp⟩) M.out ?_
  try simp only [List.getElem_toArray, List.getElem_cons_succ, List.getElem_cons_zero, Act.put, List.setIfInBounds_toArray, List.set_cons_zero, List.set_cons_succ]
  refine anyT_take [] (i := 7) (v := .int .u64 (nl : Int)) rfl (by kernel_rfl) (by kernel_rfl) (by kernel_rfl) (fun _ _ _ h => h) (by kernel_rfl) (Or.inl ⟨by rfl, fun w' _ => by go_simp⟩) M.out ?_
  try simp only [List.getElem_toArray, List.getElem_cons_succ, List.getElem_cons_zero, Act.put, List.setIfInBounds_toArray, List.set_cons_zero, List.set_cons_succ]
  refine anyT_one (i := 3) (by kernel_rfl) rfl (fun K hK => ?_)
  rw [if_pos (by rfl)]
  try simp only [List.getElem_toArray, List.getElem_cons_succ, List.getElem_cons_zero]
  (go_simp; (with_reducible refine (HWH.out _ HX.out).mono ?_); rintro e y1 ⟨vy1, rfl, hx, hb⟩; replace HX := Lib.hid hx; replace M := Lib.hid (M.out.call hb); clear hx hb)
  refine hK _ _ (fun _ => M.out) ?_
  clear hK K
  try simp only [List.getElem_toArray, List.getElem_cons_succ, List.getElem_cons_zero, Act.put, List.setIfInBounds_toArray, List.set_cons_zero, List.set_cons_succ]
  refine anyT_one (i := 8) (by kernel_rfl) rfl (fun K hK => ?_)
  rw [if_pos (by rfl)]
  try simp only [List.getElem_toArray, List.getElem_cons_succ, List.getElem_cons_zero]
  (go_simp; (with_reducible refine (dUint_any vy1 _ nl y1 HX.out hn64 (by have h0 := HR.out; have a3 := V3.out; simp only [List.length_append]; omega)).mono ?_); rintro e y2 hp; obtain ⟨vy2, rfl, hx, hb⟩ := refL_next hp (by have h0 := HR.out; have a3 := V3.out; simp only [List.length_append]; unfold maxLen; omega); replace HX := Lib.hid hx; replace M := Lib.hid (M.out.call hb); clear hp hx hb)
  refine hK _ _ (fun _ => M.out) ?_
  clear hK K
  try simp only [List.getElem_toArray, List.getElem_cons_succ, List.getElem_cons_zero, Act.put, List.setIfInBounds_toArray, List.set_cons_zero, List.set_cons_succ]
  refine anyT_take [] (i := 9) (v := vy2) rfl (by kernel_rfl) (by kernel_rfl) (by kernel_rfl) (fun _ _ _ h => h) (by kernel_rfl) (Or.inl ⟨by rfl, fun w' _ => by go_simp⟩) M.out ?_
  try simp only [List.getElem_toArray, List.getElem_cons_succ, List.getElem_cons_zero, Act.put, List.setIfInBounds_toArray, List.set_cons_zero, List.set_cons_succ]
  refine anyT_done (by kernel_rfl) ?_ _
  obtain ⟨Z, hZ⟩ : ∃ Z, Z = (bs ++ LH) ++ varint nl := ⟨_, rfl⟩
  have HZ := Lib.hid hZ
  rw [← hZ] at HX
  have HZL := Lib.hid (show Z.length + ((catL tb1 ts).length + (cmL c l).length) + 700 ≤ 140737488355328 from by rw [hZ]; have h0 := HR.out; simp only [List.nil_append, List.length_append, rowL32]; omega)
  have HR0 := Lib.hid (show RlR (RkX q HC CC (.slice la nl lc) vv ts l) w (catL tb1) Z ts 0 vy2 y2 from ⟨M.out, by simpa [catL] using HX.out⟩)
  clear HX M HR hZ
  go_wp2_with (fail)
  go_loopw [0, 5] (fun y x wr => ∃ k : Nat, k ≤ nl ∧ x = .int .i64 (k : Int) ∧ Hid (RlR (RkX q HC CC (.slice la nl lc) vv ts l) w (catL tb1) Z ts k y wr)) (fun _ x _ => nl - (intOf x).toNat)
  case atStart => exact ⟨0, Nat.zero_le _, rfl, HR0⟩
  case round =>
    clear HR0
    obtain ⟨k, hkn, rfl, HM⟩ := hrel
    obtain ⟨hm, hx0⟩ := HM.out
    have M := Lib.hid hm
    have HX := Lib.hid hx0
    obtain ⟨ya, yc, rfl, -⟩ := id hx0
    have c34 := bk_t M.out.x.h HHS.out
    clear HM hm hx0
    by_cases hlt : k < nl
    · have hltI : (k : Int) < (nl : Int) := by omega
      obtain ⟨x, hx⟩ : ∃ x, ts[k]? = some x := ⟨ts[k]'(by have := HNL.out; omega), List.getElem?_eq_getElem _⟩
      have hv := M.out.x.t
      rw [HNL.out] at hv
      obtain ⟨ab, ao, rfl, hab, hra⟩ := hv.at hx
      have HT := Lib.hid (catL_take tb1 ts k x hx)
      have HBX := Lib.hid (M.out.x.tb x (List.mem_of_getElem? hx))
      have h1 : wr.cell? ⟨ab, ao + k, none⟩ = some x.bv := by have := hra 0 _ rfl; rw [Nat.mul_one] at this; exact this
      clear hra
      have HRM := Lib.hid (show (Z ++ catL tb1 (ts.take k)).length + (tb1 x).length + 400 ≤ 140737488355328 from by
        have h1 := HZL.out
        have h2 := catL_room tb1 ts (k + 1)
        rw [HT.out] at h2
        rw [List.length_append] at h2
        simp only [List.length_append]
        omega)
      obtain ⟨yl, hyl⟩ : ∃ n, n = (Z ++ catL tb1 (ts.take k)).length := ⟨_, rfl⟩
      rw [← hyl] at HX ⊢
      clear hv hab hx hyl
      go_upto_region 4 with (first
        | (go_at_call 58; (with_reducible refine (dBytes_any (.slice ya yl yc) x.bv _ x.bs wr HX.out HBX.out (by have h0 := HRM.out; simp only [tb1, List.length_append] at h0 ⊢; omega)).mono ?_); rintro e w2 hp; obtain ⟨vb, rfl, hx2, hb⟩ := refL_next hp (by have h0 := HRM.out; simp only [tb1, List.length_append] at h0 ⊢; unfold maxLen; omega); replace HX := Lib.hid hx2; replace M := Lib.hid (M.out.call hb); clear hp hx2 hb))
      go_wp2_with (fail)
      go_roundw
      case rel => exact ⟨k + 1, by omega, by go_num, Lib.hid ⟨M.out, by have h := HX.out; rw [HT.out, ← List.append_assoc]; exact h⟩⟩
      case measure => simp [intOf]; omega
    · obtain rfl : k = nl := by omega
      have HZK := Lib.hid (show (Z ++ catL tb1 (ts.take k)).length + (cmL c l).length + 400 ≤ 140737488355328 from by
        have h1 := HZL.out
        have h2 := catL_room tb1 ts k
        simp only [List.length_append]
        omega)
      have HCL := Lib.hid (HWC.out _ _ wr HX.out M.out.x.v M.out.x.s HZK.out)
      clear HWC
      obtain ⟨yl, hyl⟩ : ∃ n, n = (Z ++ catL tb1 (ts.take k)).length := ⟨_, rfl⟩
      rw [← hyl] at HCL ⊢
      clear hyl
      go_wp2_with (first
        | (refine wpList_load_rowT (by rfl) 29 (.tmp 30) rfl q 165 rfl CC _ (bk_c M.out.x.h HHS.out) Tryz.underlying29 rfl (by rw [HCS.out]; kernel_rfl) ?_)
        | (go_at_call 18; refine HCL.out.mono ?_; rintro e w3 ⟨vc, rfl, hx3, hb⟩; have HX3 := Lib.hid hx3; replace M := Lib.hid (M.out.call hb); clear hx3 hb))
      go_ret
      refine ⟨_, rfl, ?_, M.out.below⟩
      have hx3 := HX3.out
      have e : bs ++ bkL h ts c l = (Z ++ catL tb1 (ts.take k)) ++ cmL c l := by rw [HLH.out, HZ.out, HNL.out, List.take_length]; simp only [listL, List.append_assoc]
      rw [e]
      exact hx3
end Go.Proofs.YteokgklfljhcaaaGreatDoor
namespace Go.Proofs.YteokgklfljhcaaaGreatDoor
set_option linter.unusedVariables false
set_option linter.unusedSimpArgs false
open Go.RowKit
set_option maxRecDepth 100000
set_option linter.unusedSimpArgs false
set_option linter.unusedVariables false
def ckE11 (CH : ByteArray) (HT TM : Int) (LA TX : Nat → Int) (PR : Int) (ts : List Tb) (c : Cm) (n : Nat) : Option Nat := if hdOk CH HT TM PR && (txOk TX ts && laOk HT LA c n) then none else some 34
set_option maxHeartbeats 8000000 in
theorem pckblock_any (CH : ByteArray) (HT TM : Int) (LA AP TX VA NX : Nat → Int) (PR : Int) (tv : Value) (ts : List Tb) (c : Cm) (va : Option Addr) (n vc : Nat) (w : World) (hnm : n ≤ 140737488355328) (hl : CH.size ≤ 140737488351232) (he : Env w) (ht : TbIn w tv ts) (hts : ∀ t ∈ ts, BytesIn w t.bv t.bs) (hz : ∀ t ∈ ts, t.bs.length + 81 ≤ 140737488355328) (hn : ts.length ≤ 1048576) :
    Calls Tryz.prog 7 #[.agg (bkD (hdD CH HT TM LA AP TX VA NX PR) tv (cmC c (.slice va n vc)))] w fun e w' => e = .returned (errV (ckE11 CH HT TM LA TX PR ts c n)) ∧ Below w.heap.size w w' := by
  obtain ⟨ta, tc, rfl, -, -⟩ := ht.len
  have HH := Lib.hid (fun w => headercan_any CH HT TM LA AP TX VA NX PR w hl)
  have HT1 := Lib.hid (fun w h1 h2 h3 => txscan_any CH HT TM LA AP TX VA NX PR (.slice ta ts.length tc) (cmC c (.slice va n vc)) ts w (cmC_size _ _) h1 h2 h3 hz hn)
  have HL1 := Lib.hid (fun w => lastcan_any CH HT TM LA AP TX VA NX PR (.slice ta ts.length tc) c va n vc w hnm)
  obtain ⟨a1, ha1⟩ : ∃ b, b = hdOk CH HT TM PR := ⟨_, rfl⟩
  obtain ⟨a2, ha2⟩ : ∃ b, b = txOk TX ts := ⟨_, rfl⟩
  obtain ⟨a3, ha3⟩ : ∃ b, b = laOk HT LA c n := ⟨_, rfl⟩
  have hE : ckE11 CH HT TM LA TX PR ts c n = if a1 && (a2 && a3) then none else some 34 := by rw [ha1, ha2, ha3]; rfl
  have HEE := Lib.hid hE
  rw [← ha1] at HH
  rw [← ha2] at HT1
  rw [← ha3] at HL1
  obtain ⟨HC, hHC⟩ : ∃ x, x = hdD CH HT TM LA AP TX VA NX PR := ⟨_, rfl⟩
  have HHS := Lib.hid (show HC.size = 164 from by rw [hHC]; exact hdD_size _ _ _ _ _ _ _ _ _)
  obtain ⟨CC, hCC⟩ : ∃ x, x = cmC c (.slice va n vc) := ⟨_, rfl⟩
  have HCS := Lib.hid ((congrArg Array.size hCC).trans (cmC_size _ _))
  rw [← hHC] at HH HT1 HL1 ⊢
  rw [← hCC] at HT1 HL1 ⊢
  obtain ⟨BC, hBC⟩ : ∃ x, x = bkD HC (.slice ta ts.length tc) CC := ⟨_, rfl⟩
  have HBC := Lib.hid hBC
  have HBS := Lib.hid ((congrArg Array.size hBC).trans (bkD_size HHS.out HCS.out))
  rw [← hBC] at HT1 HL1 ⊢
  have hb1 := below_alloc w (.cells BC 31)
  have M := Lib.hid (show Kp w (w.alloc (.cells BC 31)) (CkX w.heap.size HC CC (.slice ta ts.length tc) ts) from ⟨hb1, ⟨by rw [← hBC]; exact heap_alloc_new _ _, ht.below hb1, fun t m => (hts t m).below hb1, he.below hb1 he.lt⟩, kept_ckx _ _ _ _ _⟩)
  clear he ht hts hz hn hb1 ha1 ha2 ha3 hHC hCC hBC hE hnm hl
  go_enter Tryz.func7, Tryz.ntmps7
  go_upto_region 1 with (fail)
  generalize w.alloc (.cells BC 31) = w1 at *
  obtain ⟨q, hq⟩ : ∃ q, q = w.heap.size := ⟨_, rfl⟩
  rw [← hq] at M ⊢
  clear hq
  cases a1 with
  | false =>
    go_wp2_with (first
      | (refine wpList_load_rowT (by rfl) 25 (.tmp 3) rfl q 0 rfl HC _ (bk_h M.out.x.h HHS.out) Tryz.underlying25 rfl (by rw [HHS.out]; kernel_rfl) ?_)
      | (go_at_call 45; (with_reducible refine (HH.out _).mono ?_); rintro e w2 ⟨rfl, hb⟩; replace M := Lib.hid (M.out.call hb); clear hb)
      | (refine wpList_load_rowT (by rfl) 31 (.tmp 1) rfl q 0 rfl BC _ (rowT_range (by rw [HBC.out]; exact M.out.x.h)) Tryz.underlying31 rfl (by rw [HBS.out]; kernel_rfl) ?_)
      | (go_at_call 46; (with_reducible refine (HT1.out _ M.out.x.e M.out.x.t M.out.x.tb).mono ?_); rintro e w3 ⟨rfl, hb⟩; replace M := Lib.hid (M.out.call hb); clear hb)
      | (go_at_call 47; (with_reducible refine (HL1.out _).mono ?_); rintro e w4 ⟨rfl, hb⟩; replace M := Lib.hid (M.out.call hb); clear hb))
    go_ret
    exact ⟨by rw [HEE.out]; rfl, M.out.below⟩
  | true =>
    cases a2 with
    | false =>
      go_wp2_with (first
        | (refine wpList_load_rowT (by rfl) 25 (.tmp 3) rfl q 0 rfl HC _ (bk_h M.out.x.h HHS.out) Tryz.underlying25 rfl (by rw [HHS.out]; kernel_rfl) ?_)
        | (go_at_call 45; (with_reducible refine (HH.out _).mono ?_); rintro e w2 ⟨rfl, hb⟩; replace M := Lib.hid (M.out.call hb); clear hb)
        | (refine wpList_load_rowT (by rfl) 31 (.tmp 1) rfl q 0 rfl BC _ (rowT_range (by rw [HBC.out]; exact M.out.x.h)) Tryz.underlying31 rfl (by rw [HBS.out]; kernel_rfl) ?_)
        | (go_at_call 46; (with_reducible refine (HT1.out _ M.out.x.e M.out.x.t M.out.x.tb).mono ?_); rintro e w3 ⟨rfl, hb⟩; replace M := Lib.hid (M.out.call hb); clear hb)
        | (go_at_call 47; (with_reducible refine (HL1.out _).mono ?_); rintro e w4 ⟨rfl, hb⟩; replace M := Lib.hid (M.out.call hb); clear hb))
      go_ret
      exact ⟨by rw [HEE.out]; rfl, M.out.below⟩
    | true =>
      cases a3 with
      | false =>
        go_wp2_with (first
          | (refine wpList_load_rowT (by rfl) 25 (.tmp 3) rfl q 0 rfl HC _ (bk_h M.out.x.h HHS.out) Tryz.underlying25 rfl (by rw [HHS.out]; kernel_rfl) ?_)
          | (go_at_call 45; (with_reducible refine (HH.out _).mono ?_); rintro e w2 ⟨rfl, hb⟩; replace M := Lib.hid (M.out.call hb); clear hb)
          | (refine wpList_load_rowT (by rfl) 31 (.tmp 1) rfl q 0 rfl BC _ (rowT_range (by rw [HBC.out]; exact M.out.x.h)) Tryz.underlying31 rfl (by rw [HBS.out]; kernel_rfl) ?_)
          | (go_at_call 46; (with_reducible refine (HT1.out _ M.out.x.e M.out.x.t M.out.x.tb).mono ?_); rintro e w3 ⟨rfl, hb⟩; replace M := Lib.hid (M.out.call hb); clear hb)
          | (go_at_call 47; (with_reducible refine (HL1.out _).mono ?_); rintro e w4 ⟨rfl, hb⟩; replace M := Lib.hid (M.out.call hb); clear hb))
        go_ret
        exact ⟨by rw [HEE.out]; rfl, M.out.below⟩
      | true =>
        go_wp2_with (first
          | (refine wpList_load_rowT (by rfl) 25 (.tmp 3) rfl q 0 rfl HC _ (bk_h M.out.x.h HHS.out) Tryz.underlying25 rfl (by rw [HHS.out]; kernel_rfl) ?_)
          | (go_at_call 45; (with_reducible refine (HH.out _).mono ?_); rintro e w2 ⟨rfl, hb⟩; replace M := Lib.hid (M.out.call hb); clear hb)
          | (refine wpList_load_rowT (by rfl) 31 (.tmp 1) rfl q 0 rfl BC _ (rowT_range (by rw [HBC.out]; exact M.out.x.h)) Tryz.underlying31 rfl (by rw [HBS.out]; kernel_rfl) ?_)
          | (go_at_call 46; (with_reducible refine (HT1.out _ M.out.x.e M.out.x.t M.out.x.tb).mono ?_); rintro e w3 ⟨rfl, hb⟩; replace M := Lib.hid (M.out.call hb); clear hb)
          | (go_at_call 47; (with_reducible refine (HL1.out _).mono ?_); rintro e w4 ⟨rfl, hb⟩; replace M := Lib.hid (M.out.call hb); clear hb))
        go_ret
        exact ⟨by rw [HEE.out]; rfl, M.out.below⟩
set_option maxHeartbeats 4000000 in
theorem pheaderhash_any (CH : ByteArray) (HT TM : Int) (LA AP TX VA NX : Nat → Int) (PR : Int) (w : World) (he : Env w) (hHT : -9223372036854775808 ≤ HT ∧ HT ≤ 9223372036854775807) (hTM : -9223372036854775808 ≤ TM ∧ TM ≤ 9223372036854775807) (hPR : -9223372036854775808 ≤ PR ∧ PR ≤ 9223372036854775807) (hl : CH.size ≤ 1048576) :
    Calls Tryz.prog 11 #[.agg (hdD CH HT TM LA AP TX VA NX PR)] w fun e w' => e = .returned (.agg (rowOf .u8 32 (sumF (8 :: hdL CH HT TM LA AP TX VA NX PR)))) ∧ Below w.heap.size w w' := by
  have HLL := Lib.hid (show (hdL CH HT TM LA AP TX VA NX PR).length ≤ 1048576 + 300 from by
    have a1 := glenT (zig_lt hHT.1 hHT.2)
    have a2 := glenT (zig_lt hTM.1 hTM.2)
    have a3 := glenT (zig_lt hPR.1 hPR.2)
    have a4 := glenT (n := CH.size) (by omega)
    simp only [hdL, List.length_append, rowL32, numsOf_length]; omega)
  have HEN := Lib.hid (fun w => eheader_any CH HT TM LA AP TX VA NX PR w hHT hTM hPR (by omega))
  obtain ⟨XL, hXL⟩ : ∃ x, x = hdL CH HT TM LA AP TX VA NX PR := ⟨_, rfl⟩
  rw [← hXL] at HLL HEN ⊢
  obtain ⟨HC, hHC⟩ : ∃ x, x = hdD CH HT TM LA AP TX VA NX PR := ⟨_, rfl⟩
  have HHS := Lib.hid (show HC.size = 164 from by rw [hHC]; exact hdD_size _ _ _ _ _ _ _ _ _)
  rw [← hHC] at HEN ⊢
  obtain ⟨SF, hSF⟩ : ∃ x, x = sumF (8 :: XL) := ⟨_, rfl⟩
  have HSM := Lib.hid (show ∀ v w, BytesIn w v (8 :: XL) → Env w → Calls Tryz.prog 53 #[v] w fun e w' => e = .returned (.agg (rowOf .u8 32 SF)) ∧ Below w.heap.size w w' from fun v w h he => by rw [hSF]; exact shSum_any v _ w h he)
  rw [← hSF]
  have HQ := Lib.hid (heap_alloc_new w (.cells HC 25))
  have HB := Lib.hid (below_alloc w (.cells HC 25))
  have HE := Lib.hid he
  have HEL := Lib.hid he.lt
  clear hHT hTM hPR hl hXL hHC hSF he
  go_enter Tryz.func11, Tryz.ntmps11
  go_upto_region 1 with (fail)
  rw [zeros32]
  have hb2 := below_alloc (w.alloc (.cells HC 25)) (.cells (rowOf .u8 32 (fun _ => 0)) 23)
  have HR := Lib.hid (heap_alloc_new (w.alloc (.cells HC 25)) (.cells (rowOf .u8 32 (fun _ => 0)) 23))
  rw [size_alloc] at HR
  replace HQ := Lib.hid ((hb2.block _ (bkT_lt HQ.out)).trans HQ.out)
  replace HB := Lib.hid (HB.out.trans (hb2.mono (by simp)))
  clear hb2
  generalize (w.alloc (.cells HC 25)).alloc (.cells (rowOf .u8 32 (fun _ => 0)) 23) = w1 at *
  have HW1 := Lib.hid (show w.heap.size + 1 < w1.heap.size from bkT_lt HR.out)
  have HO0 := Lib.hid (World.ownsRow_lit (w := w1) (base := w1.heap.size) (e := 5) (size := 1) #[.int .u8 8] 1 (by simp) (by simp [maxLen]) rfl)
  have hb3 := below_alloc w1 (.cells #[.int .u8 8] 5)
  replace HR := Lib.hid ((hb3.block _ (bkT_lt HR.out)).trans HR.out)
  replace HQ := Lib.hid ((hb3.block _ (bkT_lt HQ.out)).trans HQ.out)
  replace HB := Lib.hid (HB.out.trans (hb3.mono HB.out.size))
  clear hb3
  obtain ⟨g, hg⟩ : ∃ g, g = w1.heap.size := ⟨_, rfl⟩
  rw [← hg] at HO0 HW1
  have HGE := Lib.hid hg
  clear hg
  have HOX := Lib.hid (show ∀ w2, Below (w1.alloc (.cells #[.int .u8 8] 5)).heap.size (w1.alloc (.cells #[.int .u8 8] 5)) w2 → w2.ownsRow g 5 1 (.slice (some ⟨g, 0, none⟩) 1 1) 1 [.int .u8 8] from fun w2 hb => by
    have h := HO0.out
    exact own_stay11 h fun k hk => hb.block k (h.lt k hk).2)
  go_wp2_with (first
    | (refine wpList_load_rowT (by rfl) 25 (.tmp 1) rfl w.heap.size 0 rfl HC _ (rowT_range HQ.out) Tryz.underlying25 rfl (by rw [HHS.out]; kernel_rfl) ?_)
    | (go_at_call 15; (with_reducible refine (HEN.out _).mono ?_); rintro e w2 ⟨vb, rfl, hby, hb⟩; have HBY := Lib.hid hby; have HO := Lib.hid (HOX.out _ hb); replace HR := Lib.hid ((hb.block _ (bkT_lt HR.out)).trans HR.out); have HGS := Lib.hid (show g ≤ w2.heap.size from by have := hb.size; rw [size_alloc, ← HGE.out] at this; omega); replace HB := Lib.hid (HB.out.trans (hb.mono HB.out.size)); rw [← HGE.out]; clear hby hb)
    | (at_builtin; refine wpList_append_bytes rfl (.tmp 3) (.tmp 5) rfl rfl g _ 1 [.int .u8 8] rfl HO.out vb XL rfl HBY.out (by have := HLL.out; omega) HGS.out ?_; intro v' w3 ho hg _; have HX1 := Lib.hid (owns_in (xs := 8 :: XL) (by have h := ho; rw [Nat.add_comm 1 XL.length] at h; exact h) (by have := HLL.out; unfold maxLen; simp; omega)); replace HR := Lib.hid ((hg.block _ (bkT_lt HR.out) (fun e => by have := (HO.out.lt _ e.symm).1; have := HW1.out; omega)).trans HR.out); replace HB := Lib.hid (HB.out.grown hg HB.out.size (fun k hk => by have := (HO.out.lt k hk).1; have := HW1.out; omega)); clear ho hg)
    | (go_at_call 53; (with_reducible refine (HSM.out _ _ HX1.out (HE.out.below HB.out HEL.out)).mono ?_); rintro e w4 ⟨rfl, hb⟩; replace HR := Lib.hid ((hb.block _ (bkT_lt HR.out)).trans HR.out); replace HB := Lib.hid (HB.out.trans (hb.mono HB.out.size)); clear hb)
    | (refine wpList_store_row rfl 23 (.tmp 2) (.tmp 7) rfl (w.heap.size + 1) _ rfl rfl 23 _ HR.out (by rw [rowOf_size]; kernel_rfl) (by rw [rowOf_size, rowOf_size]) (rowOf_one _ _ _) ?_))
  refine bodyPost_ret (results_cell_row rfl _ _ (w.heap.size + 1) 23 (rowOf .u8 32 SF) (0, 0) _ rfl (setRow_heap _ _ _ _ _ _ HR.out) Tryz.underlying23 rfl (by rw [rowOf_size]; kernel_rfl)) rfl ?_
  exact ⟨rfl, below_setRow HB.out (by omega) _⟩
set_option maxHeartbeats 4000000 in
theorem rheaderhash_any (CH : ByteArray) (HT TM : Int) (LA AP TX VA NX : Nat → Int) (PR : Int) (w : World) (hHT : -9223372036854775808 ≤ HT ∧ HT ≤ 9223372036854775807) (hTM : -9223372036854775808 ≤ TM ∧ TM ≤ 9223372036854775807) (hPR : -9223372036854775808 ≤ PR ∧ PR ≤ 9223372036854775807) (hl : CH.size ≤ 1048576) :
    Calls Tryz.prog 12 #[.agg (hdD CH HT TM LA AP TX VA NX PR)] w fun e w' => e = .returned (.agg (rowOf .u8 32 (sumF (8 :: hdL CH HT TM LA AP TX VA NX PR)))) ∧ Below w.heap.size w w' := by
  have HLL := Lib.hid (show (hdL CH HT TM LA AP TX VA NX PR).length ≤ 1048576 + 300 from by
    have a1 := glenT (zig_lt hHT.1 hHT.2)
    have a2 := glenT (zig_lt hTM.1 hTM.2)
    have a3 := glenT (zig_lt hPR.1 hPR.2)
    have a4 := glenT (n := CH.size) (by omega)
    simp only [hdL, List.length_append, rowL32, numsOf_length]; omega)
  have HEN := Lib.hid (fun b bs w h (hb : bs.length + (hdL CH HT TM LA AP TX VA NX PR).length + 400 ≤ 140737488355328) => rrefhdr_any b bs CH HT TM LA AP TX VA NX PR w h hHT hTM hPR hb)
  obtain ⟨XL, hXL⟩ : ∃ x, x = hdL CH HT TM LA AP TX VA NX PR := ⟨_, rfl⟩
  rw [← hXL] at HLL HEN ⊢
  obtain ⟨HC, hHC⟩ : ∃ x, x = hdD CH HT TM LA AP TX VA NX PR := ⟨_, rfl⟩
  have HHS := Lib.hid (show HC.size = 164 from by rw [hHC]; exact hdD_size _ _ _ _ _ _ _ _ _)
  rw [← hHC] at HEN ⊢
  obtain ⟨SF, hSF⟩ : ∃ x, x = sumF (8 :: XL) := ⟨_, rfl⟩
  have HSM := Lib.hid (show ∀ v w, BytesIn w v (8 :: XL) → Calls Tryz.prog 54 #[v] w fun e w' => e = .returned (.agg (rowOf .u8 32 SF)) ∧ Below w.heap.size w w' from fun v w h => by rw [hSF]; exact rsum_any v _ w h (by have := HLL.out; simp only [List.length_cons]; omega))
  rw [← hSF]
  have HQ := Lib.hid (heap_alloc_new w (.cells HC 25))
  have HB := Lib.hid (below_alloc w (.cells HC 25))
  clear hHT hTM hPR hl hXL hHC hSF
  go_enter Tryz.func12, Tryz.ntmps12
  go_upto_region 1 with (fail)
  rw [zeros32]
  have hb2 := below_alloc (w.alloc (.cells HC 25)) (.cells (rowOf .u8 32 (fun _ => 0)) 23)
  have HR := Lib.hid (heap_alloc_new (w.alloc (.cells HC 25)) (.cells (rowOf .u8 32 (fun _ => 0)) 23))
  rw [size_alloc] at HR
  replace HQ := Lib.hid ((hb2.block _ (bkT_lt HQ.out)).trans HQ.out)
  replace HB := Lib.hid (HB.out.trans (hb2.mono (by simp)))
  clear hb2
  generalize (w.alloc (.cells HC 25)).alloc (.cells (rowOf .u8 32 (fun _ => 0)) 23) = w1 at *
  have HW1 := Lib.hid (show w.heap.size + 1 < w1.heap.size from bkT_lt HR.out)
  have HO0 := Lib.hid (World.ownsRow_lit (w := w1) (base := w1.heap.size) (e := 5) (size := 1) #[.int .u8 8] 1 (by simp) (by simp [maxLen]) rfl)
  have hb3 := below_alloc w1 (.cells #[.int .u8 8] 5)
  replace HR := Lib.hid ((hb3.block _ (bkT_lt HR.out)).trans HR.out)
  replace HQ := Lib.hid ((hb3.block _ (bkT_lt HQ.out)).trans HQ.out)
  replace HB := Lib.hid (HB.out.trans (hb3.mono HB.out.size))
  clear hb3
  obtain ⟨g, hg⟩ : ∃ g, g = w1.heap.size := ⟨_, rfl⟩
  rw [← hg] at HO0 HW1
  have HGE := Lib.hid hg
  clear hg
  have HIN := Lib.hid (show BytesIn (w1.alloc (.cells #[.int .u8 8] 5)) (.slice (some ⟨g, 0, none⟩) 1 1) [8] from by
    have h := HO0.out
    exact owns_in (xs := [8]) h (by unfold maxLen; simp))
  go_wp2_with (first
    | (refine wpList_load_rowT (by rfl) 25 (.tmp 1) rfl w.heap.size 0 rfl HC _ (rowT_range HQ.out) Tryz.underlying25 rfl (by rw [HHS.out]; kernel_rfl) ?_)
    | (rw [← HGE.out]; go_at_call 16; (with_reducible refine (HEN.out _ _ _ HIN.out (by have := HLL.out; simp only [List.length_cons, List.length_nil]; omega)).mono ?_); rintro e w2 ⟨vb, rfl, hby, hb⟩; have HX1 := Lib.hid (show BytesIn w2 vb (8 :: XL) from hby); replace HR := Lib.hid ((hb.block _ (bkT_lt HR.out)).trans HR.out); replace HB := Lib.hid (HB.out.trans (hb.mono HB.out.size)); clear hby hb)
    | (go_at_call 54; (with_reducible refine (HSM.out _ _ HX1.out).mono ?_); rintro e w4 ⟨rfl, hb⟩; replace HR := Lib.hid ((hb.block _ (bkT_lt HR.out)).trans HR.out); replace HB := Lib.hid (HB.out.trans (hb.mono HB.out.size)); clear hb)
    | (refine wpList_store_row rfl 23 (.tmp 2) (.tmp 6) rfl (w.heap.size + 1) _ rfl rfl 23 _ HR.out (by rw [rowOf_size]; kernel_rfl) (by rw [rowOf_size, rowOf_size]) (rowOf_one _ _ _) ?_))
  refine bodyPost_ret (results_cell_row rfl _ _ (w.heap.size + 1) 23 (rowOf .u8 32 SF) (0, 0) _ rfl (setRow_heap _ _ _ _ _ _ HR.out) Tryz.underlying23 rfl (by rw [rowOf_size]; kernel_rfl)) rfl ?_
  exact ⟨rfl, below_setRow HB.out (by omega) _⟩
theorem index_str11 (s : ByteArray) (i : Nat) (h : i < s.size) : (numsOf s)[i]? = some (s[i].toNat : Int) := by
  unfold numsOf
  rw [List.getElem?_map, Array.getElem?_toList]
  show Option.map _ (s.data[i]?) = _
  rw [Array.getElem?_eq_getElem h]
  rfl
theorem nm_endB (s : ByteArray) (h : NmRel s s.size) : nmB s = (decide (0 < s.size) && decide (s.size ≤ 64)) := by
  by_cases h1 : s.size < 1
  · rw [nm_short h1, decide_eq_false (by omega)]; rfl
  · by_cases h2 : 64 < s.size
    · rw [nm_long h2, decide_eq_false (by omega : ¬ s.size ≤ 64), Bool.and_false]
    · rw [nm_good (by omega) (by omega) h, decide_eq_true (by omega), decide_eq_true (by omega)]; rfl
set_option maxHeartbeats 4000000 in
theorem rnamed_any (s : ByteArray) (w : World) (hs : s.size ≤ 140737488351232) : Calls Tryz.prog 48 #[.string s] w fun e w' => e = .returned (.bool (nmB s)) ∧ Below w.heap.size w w' := by
  obtain ⟨b, hb⟩ : ∃ b, b = nmB s := ⟨_, rfl⟩
  have HBB := Lib.hid hb
  rw [← hb]
  obtain ⟨n, hn⟩ : ∃ n, n = s.size := ⟨_, rfl⟩
  have HN := Lib.hid hn
  have hnI : (n : Int) ≤ 140737488351232 := by omega
  have HE := Lib.hid (nm_endB s)
  rw [← hn] at HE
  have HR0 := Lib.hid (show NmRel s 0 from fun j c h => by omega)
  have HSZ := Lib.hid (show (s.size : Int) = n by omega)
  clear hb hn hs
  go_enter Tryz.func48, Tryz.ntmps48
  go_wp2_with (fail)
  go_loopw [3] (fun x wr => ∃ k : Nat, k ≤ n ∧ x = .int .i64 (k : Int) ∧ wr = w ∧ Hid (NmRel s k)) (fun x _ => n - (intOf x).toNat)
  case atStart => exact ⟨0, Nat.zero_le _, rfl, rfl, HR0⟩
  case round =>
    clear HR0
    obtain ⟨k, hkn, rfl, rfl, HR⟩ := hrel
    by_cases hlt : k < n
    · have hltI : (k : Int) < (n : Int) := by omega
      have g0 : (k : Int) < s.size := by have := HN.out; omega
      have l0 : k < s.size := by have := HN.out; omega
      have HC := Lib.hid (index_str11 s k l0)
      by_cases hc1 : (s[k].toNat : Int) < 33
      · have HF := Lib.hid (nm_bad HC.out (.inl hc1))
        go_wp2_with (fail)
        go_ret
        exact ⟨by rw [HBB.out, HF.out]; rfl, Below.refl _ _⟩
      by_cases hc2 : 126 < (s[k].toNat : Int)
      · have HF := Lib.hid (nm_bad HC.out (.inr hc2))
        go_wp2_with (fail)
        go_ret
        exact ⟨by rw [HBB.out, HF.out]; rfl, Below.refl _ _⟩
      have HC12 := Lib.hid (show 33 ≤ (s[k].toNat : Int) ∧ (s[k].toNat : Int) ≤ 126 by omega)
      go_wp2_with (fail)
      go_roundw
      case rel =>
        refine ⟨k + 1, by omega, by go_num, trivial, Lib.hid fun j x hj hx => ?_⟩
        rcases (by omega : j < k ∨ j = k) with h | rfl
        · exact HR.out j x h hx
        · rw [HC.out] at hx; injection hx with hx; rw [← hx]; exact HC12.out
      case measure => simp [intOf]; omega
    · obtain rfl : k = n := by omega
      have HF := Lib.hid (HE.out HR.out)
      have hszk : (s.size : Int) = (k : Int) := HSZ.out
      by_cases h0 : 0 < k
      · have h0I : (0 : Int) < (k : Int) := by omega
        by_cases h64 : k ≤ 64
        · have h64I : (k : Int) ≤ 64 := by omega
          have HF2 := Lib.hid (show nmB s = true from by rw [HF.out, decide_eq_true h0, decide_eq_true h64]; rfl)
          go_wp2_with (fail)
          go_ret
          exact ⟨by rw [HBB.out, HF2.out]; first | rfl | (simp; omega), Below.refl _ _⟩
        · have h64I : ¬ (k : Int) ≤ 64 := by omega
          have HF2 := Lib.hid (show nmB s = false from by rw [HF.out, decide_eq_false h64, Bool.and_false])
          go_wp2_with (fail)
          go_ret
          exact ⟨by rw [HBB.out, HF2.out]; first | rfl | (simp; omega), Below.refl _ _⟩
      · have h0I : ¬ (0 : Int) < (k : Int) := by omega
        have HF2 := Lib.hid (show nmB s = false from by rw [HF.out, decide_eq_false h0, Bool.false_and])
        go_wp2_with (fail)
        go_ret
        exact ⟨by rw [HBB.out, HF2.out]; first | rfl | (simp; omega), Below.refl _ _⟩
end Go.Proofs.YteokgklfljhcaaaGreatDoor

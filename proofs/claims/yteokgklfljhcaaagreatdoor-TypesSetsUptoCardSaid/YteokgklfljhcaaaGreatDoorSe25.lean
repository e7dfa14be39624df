/- Part 25 of the proof. -/
import Derived.Test.YteokgklfljhcaaaGreatDoorSe3
import Derived.Test.YteokgklfljhcaaaGreatDoorSe14
import Derived.Test.YteokgklfljhcaaaGreatDoorSe23
import Derived.Test.YteokgklfljhcaaaGreatDoorSe24
namespace Go.Proofs.YteokgklfljhcaaaGreatDoor
set_option linter.unusedVariables false
set_option linter.unusedSimpArgs false
open Go.RowKit
set_option maxRecDepth 100000
set_option linter.unusedSimpArgs false
set_option linter.unusedVariables false
set_option maxHeartbeats 4000000 in
theorem encval_any (t : Va) (w : World) (hp : -9223372036854775808 ≤ t.pow ∧ t.pow ≤ 9223372036854775807) (hl : (va1 t).length + 400 ≤ 140737488355328) :
    Calls Tryz.prog 75 #[.agg (vaC t), .func (.func 76) #[] #[]] w fun e w' => ∃ vb, e = .returned vb ∧ BytesIn w' vb (va1 t) ∧ Below w.heap.size w w' := by
  have HBA := Lib.hid (below_alloc w (.cells (vaC t) 54))
  have HQ := Lib.hid (heap_alloc_new w (.cells (vaC t) 54))
  have HL := Lib.hid hl
  have HCW := Lib.hid (show ∀ g, (w.alloc (.cells (vaC t) 54)).heap.size ≤ g → ∀ v XS w2, WAt w2 g v XS → Below (w.alloc (.cells (vaC t) 54)).heap.size (w.alloc (.cells (vaC t) 54)) w2 → XS.length + (va1 t).length + 10 ≤ 140737488355328 → Calls Tryz.prog 76 #[.pointer (some ⟨g, 0, none⟩), .agg (vaC t)] w2 fun e w' => e = .returned (.tuple #[]) ∧ WsR g v w2 (XS ++ va1 t) w' from fun g hg v XS w2 hw hB hr => wvalC_any t g v XS w2 hw hp hr)
  obtain ⟨CC, hCC⟩ : ∃ x, x = vaC t := ⟨_, rfl⟩
  have HCS := Lib.hid ((congrArg Array.size hCC).trans (vaC_size t))
  rw [← hCC] at HBA HQ HCW ⊢
  obtain ⟨LL, hLL⟩ : ∃ x, x = va1 t := ⟨_, rfl⟩
  rw [← hLL] at HL HCW ⊢
  clear hl hCC hLL hp
  go_enter Tryz.func75, Tryz.ntmps75
  go_upto_region 1 with (fail)
  generalize w.alloc (.cells CC 54) = w1 at *
  go_wp2_with (first
    | (go_at_call 107; (with_reducible refine (new_any w1).mono ?_); rintro e w2 ⟨rfl, hw, hb⟩; have HW := Lib.hid hw; have HB2 := Lib.hid hb; replace HQ := Lib.hid ((hb.block _ (bkT_lt HQ.out)).trans HQ.out); clear hw hb)
    | (refine wpList_load_rowT (by rfl) 54 (.tmp 2) rfl w.heap.size 0 rfl CC _ (rowT_range HQ.out) Tryz.underlying54 rfl (by rw [HCS.out]; kernel_rfl) ?_)
    | (go_at_call 76; (with_reducible refine (HCW.out w1.heap.size (Nat.le_refl _) _ [] w2 HW.out HB2.out (by have := HL.out; simp only [List.length_nil]; omega)).mono ?_); rintro e w3 ⟨rfl, v3, hw, hs⟩; have HB3 := Lib.hid (HB2.out.trans (hs.below HW.out (Nat.le_refl _))); replace HW := Lib.hid (show WAt w3 w1.heap.size v3 LL from hw); clear hw hs)
    | (go_at_call 108; (with_reducible refine (done_any w1.heap.size _ _ w3 HW.out (by have := HL.out; omega)).mono ?_); rintro e w4 ⟨vb, rfl, ho, hb⟩; have HO := Lib.hid ho; have HB4 := Lib.hid (HB3.out.trans (hb.mono HB3.out.size)); clear ho hb))
  go_ret
  exact ⟨_, rfl, owns_in HO.out (by have := HL.out; unfold maxLen; omega), HBA.out.trans (HB4.out.mono HBA.out.size)⟩

theorem wset_any (w0 : World) (g : Nat) (hg : w0.heap.size ≤ g) (l : List Va) (vv : Value) (hl : VaIn w0 vv l) (ho : ∀ t ∈ l, -9223372036854775808 ≤ t.pow ∧ t.pow ≤ 9223372036854775807) (v : Value) (XS : List Int) (w : World) (hw : WAt w g v XS) (hB : Below w0.heap.size w0 w) (room : XS.length + (listL va1 l).length + 10 ≤ 140737488355328) :
    Calls Tryz.prog 79 #[.pointer (some ⟨g, 0, none⟩), vv] w fun e w' => e = .returned (.tuple #[]) ∧ WsR g v w (XS ++ listL va1 l) w' := by
  have HC := Lib.hid (wlistA_any w0 g hg l vv hl ho v XS w hw hB room)
  clear hw hB hl ho room
  go_enter Tryz.func79, Tryz.ntmps79
  go_wp2_with (go_at_call 127; (with_reducible refine HC.out.mono ?_); rintro e w1 ⟨rfl, hp⟩; have HP := Lib.hid hp; clear hp)
  go_end0
  exact ⟨rfl, HP.out⟩
set_option maxHeartbeats 4000000 in
theorem encset_any (l : List Va) (vv : Value) (w : World) (hl : VaIn w vv l) (ho : ∀ t ∈ l, -9223372036854775808 ≤ t.pow ∧ t.pow ≤ 9223372036854775807) (hr : (listL va1 l).length + 400 ≤ 140737488355328) :
    Calls Tryz.prog 78 #[vv, .func (.func 79) #[] #[]] w fun e w' => ∃ vb, e = .returned vb ∧ BytesIn w' vb (listL va1 l) ∧ Below w.heap.size w w' := by
  have HL := Lib.hid hr
  have HCW := Lib.hid (show ∀ g, w.heap.size ≤ g → ∀ v XS w2, WAt w2 g v XS → Below w.heap.size w w2 → XS.length + (listL va1 l).length + 10 ≤ 140737488355328 → Calls Tryz.prog 79 #[.pointer (some ⟨g, 0, none⟩), vv] w2 fun e w' => e = .returned (.tuple #[]) ∧ WsR g v w2 (XS ++ listL va1 l) w' from fun g hg v XS w2 hw hB hr => wset_any w g hg l vv hl ho v XS w2 hw hB hr)
  obtain ⟨LL, hLL⟩ : ∃ x, x = listL va1 l := ⟨_, rfl⟩
  rw [← hLL] at HL HCW ⊢
  clear hr hLL hl ho
  go_enter Tryz.func78, Tryz.ntmps78
  go_wp2_with (first
    | (go_at_call 107; (with_reducible refine (new_any w).mono ?_); rintro e w2 ⟨rfl, hw, hb⟩; have HW := Lib.hid hw; have HB2 := Lib.hid hb; clear hw hb)
    | (go_at_call 79; (with_reducible refine (HCW.out w.heap.size (Nat.le_refl _) _ [] w2 HW.out HB2.out (by have := HL.out; simp only [List.length_nil]; omega)).mono ?_); rintro e w3 ⟨rfl, v3, hw, hs⟩; have HB3 := Lib.hid (HB2.out.trans (hs.below HW.out (Nat.le_refl _))); replace HW := Lib.hid (show WAt w3 w.heap.size v3 LL from hw); clear hw hs)
    | (go_at_call 108; (with_reducible refine (done_any w.heap.size _ _ w3 HW.out (by have := HL.out; omega)).mono ?_); rintro e w4 ⟨vb, rfl, ho, hb⟩; have HO := Lib.hid ho; have HB4 := Lib.hid (HB3.out.trans (hb.mono HB3.out.size)); clear ho hb))
  go_ret
  exact ⟨_, rfl, owns_in HO.out (by have := HL.out; unfold maxLen; omega), HB4.out⟩
theorem eset_any (l : List Va) (vv : Value) (w : World) (hl : VaIn w vv l) (ho : ∀ t ∈ l, -9223372036854775808 ≤ t.pow ∧ t.pow ≤ 9223372036854775807) (hr : (listL va1 l).length + 400 ≤ 140737488355328) :
    Calls Tryz.prog 28 #[vv] w fun e w' => ∃ vb, e = .returned vb ∧ BytesIn w' vb (listL va1 l) ∧ Below w.heap.size w w' := by
  have HC := Lib.hid (encset_any l vv w hl ho hr)
  clear hl ho hr
  go_enter Tryz.func28, Tryz.ntmps28
  go_wp2_with (go_at_call 78; (with_reducible refine HC.out.mono ?_); rintro e w2 ⟨vb, rfl, hin, hb⟩; have HO := Lib.hid hin; have HB2 := Lib.hid hb; clear hin hb)
  go_ret
  exact ⟨_, rfl, HO.out, HB2.out⟩
end Go.Proofs.YteokgklfljhcaaaGreatDoor
namespace Go.Proofs.YteokgklfljhcaaaGreatDoor
set_option linter.unusedVariables false
set_option linter.unusedSimpArgs false
open Go.RowKit
set_option maxRecDepth 100000
set_option linter.unusedSimpArgs false
set_option linter.unusedVariables false
theorem rrefvalC_any (b : Value) (bs : List Int) (t : Va) (w : World) (hb : BytesIn w b bs) (hp : -9223372036854775808 ≤ t.pow ∧ t.pow ≤ 9223372036854775807) (hl : bs.length + (va1 t).length + 400 ≤ 140737488355328) :
    Calls Tryz.prog 77 #[b, .agg (vaC t)] w fun e w' => ∃ vb, e = .returned vb ∧ BytesIn w' vb (bs ++ va1 t) ∧ Below w.heap.size w w' := by
  rw [vaC_D]
  exact rrefval_any b bs t.name t.key t.pow w hb hp hl
set_option maxHeartbeats 8000000 in
theorem rrefset_any (l : List Va) (vv : Value) (w : World) (hl : VaIn w vv l) (ho : ∀ t ∈ l, -9223372036854775808 ≤ t.pow ∧ t.pow ≤ 9223372036854775807) (room : (listL va1 l).length + 400 ≤ 140737488355328) :
    Calls Tryz.prog 29 #[vv] w fun e w' => ∃ vb, e = .returned vb ∧ BytesIn w' vb (listL va1 l) ∧ Below w.heap.size w w' := by
  obtain ⟨la, lc, rfl, -, hlm⟩ := hl.len
  have M := Lib.hid (show Kp w w (fun W => VaIn W (.slice la l.length lc) l) from ⟨Below.refl _ _, hl, fun a b m h => m.below h⟩)
  have HO := Lib.hid ho
  have HR := Lib.hid (show (varint l.length).length + (catL va1 l).length + 400 ≤ 140737488355328 from by simp only [listL, List.length_append] at room; omega)
  obtain ⟨nl, hnl⟩ : ∃ n, n = l.length := ⟨_, rfl⟩
  have HNL := Lib.hid hnl
  rw [← hnl] at M HR hlm ⊢
  have hnlI : (nl : Int) ≤ 9223372036854775807 := by unfold maxLen at hlm; omega
  have hu : IntKind.u64.wrap (nl : Int) = (nl : Int) := IntWalk.u64_in _ (by omega)
  have hn64 : nl < 18446744073709551616 := by unfold maxLen at hlm; omega
  clear hl ho room hlm hnl
  go_enter Tryz.func29, Tryz.ntmps29
  go_upto_region 2 with (go_at_call 57; (with_reducible refine (dUint_any (.slice none 0 0) [] nl w (nil_in w) hn64 (by simp)).mono ?_); rintro e y2 hp; obtain ⟨vy2, rfl, hx, hb⟩ := refL_next (bs := []) (ys := varint nl) hp (by rw [List.nil_append]; have h0 := HR.out; unfold maxLen; omega); have HX := Lib.hid hx; replace M := Lib.hid (M.out.call hb); clear hp hx hb)
  obtain ⟨Z, hZ⟩ : ∃ Z, Z = ([] : List Int) ++ varint nl := ⟨_, rfl⟩
  have HZ := Lib.hid hZ
  rw [← hZ] at HX
  have HZL := Lib.hid (show Z.length + (catL va1 l).length + 400 ≤ 140737488355328 from by rw [hZ]; have h0 := HR.out; simp only [List.nil_append, List.length_append, rowL32]; omega)
  have HR0 := Lib.hid (show RlR (fun W => VaIn W (.slice la nl lc) l) w (catL va1) Z l 0 vy2 y2 from ⟨M.out, by simpa [catL] using HX.out⟩)
  clear HX M HR hZ
  go_wp2_with (fail)
  go_loopw [3, 4] (fun y x wr => ∃ k : Nat, k ≤ nl ∧ x = .int .i64 (k : Int) ∧ Hid (RlR (fun W => VaIn W (.slice la nl lc) l) w (catL va1) Z l k y wr)) (fun _ x _ => nl - (intOf x).toNat)
  case atStart => exact ⟨0, Nat.zero_le _, rfl, HR0⟩
  case round =>
    clear HR0
    obtain ⟨k, hkn, rfl, HM⟩ := hrel
    obtain ⟨hm, hx0⟩ := HM.out
    have M := Lib.hid hm
    have HX := Lib.hid hx0
    obtain ⟨ya, yc, rfl, -⟩ := id hx0
    clear HM hm hx0
    by_cases hlt : k < nl
    · have hltI : (k : Int) < (nl : Int) := by omega
      obtain ⟨x, hx⟩ : ∃ x, l[k]? = some x := ⟨l[k]'(by have := HNL.out; omega), List.getElem?_eq_getElem _⟩
      have hv := M.out.x
      rw [HNL.out] at hv
      obtain ⟨ab, ao, rfl, hab, hra⟩ := hv.at hx
      have HT := Lib.hid (catL_take va1 l k x hx)
      have HFX := Lib.hid (HO.out x (List.mem_of_getElem? hx))
      have HRA := Lib.hid hra
      clear hra
      have HRM := Lib.hid (show (Z ++ catL va1 (l.take k)).length + (va1 x).length + 400 ≤ 140737488355328 from by
        have h1 := HZL.out
        have h2 := catL_room va1 l (k + 1)
        rw [HT.out] at h2
        rw [List.length_append] at h2
        simp only [List.length_append]
        omega)
      obtain ⟨yl, hyl⟩ : ∃ n, n = (Z ++ catL va1 (l.take k)).length := ⟨_, rfl⟩
      rw [← hyl] at HX ⊢
      clear hv hab hx hyl
      go_upto_region 4 with (first
        | (refine wpList_load_rowT (by rfl) 54 (.tmp 18) rfl ab (ao + k * 34) rfl (vaC x) _ HRA.out Tryz.underlying54 rfl (by rw [vaC_size]; kernel_rfl) ?_)
        | (go_at_call 77; (with_reducible refine (rrefvalC_any (.slice ya yl yc) _ x wr HX.out HFX.out HRM.out).mono ?_); rintro e w2 ⟨vb, rfl, hx2, hb⟩; replace HX := Lib.hid hx2; replace M := Lib.hid (M.out.call hb); clear hx2 hb))
      go_wp2_with (fail)
      go_roundw
      case rel => exact ⟨k + 1, by omega, by go_num, Lib.hid ⟨M.out, by have h := HX.out; rw [HT.out, ← List.append_assoc]; exact h⟩⟩
      case measure => simp [intOf]; omega
    · obtain rfl : k = nl := by omega
      go_wp2_with (fail)
      go_ret
      refine ⟨_, rfl, ?_, M.out.below⟩
      have h := HX.out
      have e : listL va1 l = Z ++ catL va1 (l.take k) := by rw [HZ.out, HNL.out, List.take_length]; rfl
      rw [e]
      exact h
end Go.Proofs.YteokgklfljhcaaaGreatDoor
namespace Go.Proofs.YteokgklfljhcaaaGreatDoor
set_option linter.unusedVariables false
set_option linter.unusedSimpArgs false
open Go.RowKit
set_option maxRecDepth 100000
set_option linter.unusedSimpArgs false
set_option linter.unusedVariables false
/-- a validator's leaf -/
def vaF (t : Va) : Nat → Int := sumF (0 :: va1 t)
set_option maxHeartbeats 8000000 in
theorem pset_any (ls : List Va) (lv : Value) (w : World) (he : Env w) (ht : VaIn w lv ls) (ho : ∀ t ∈ ls, -9223372036854775808 ≤ t.pow ∧ t.pow ≤ 9223372036854775807) (hz : ∀ t ∈ ls, (va1 t).length + 481 ≤ 140737488355328) (hn : ls.length ≤ 1048576) :
    Calls Tryz.prog 26 #[lv] w fun e w' => e = .returned (.agg (rowOf .u8 32 (rootF (ls.map vaF)))) ∧ Below w.heap.size w w' := by
  obtain ⟨a, cap, rfl, -, hmax⟩ := ht.len
  have HE := Lib.hid he
  have HG := Lib.hid he.lt
  have HT := Lib.hid ht
  have HTS := Lib.hid ho
  have HZ := Lib.hid hz
  obtain ⟨RT, hRT⟩ : ∃ R, R = rootF (ls.map vaF) := ⟨_, rfl⟩
  have HRT := Lib.hid (show ∀ g n w, n = ls.length → HashesIn w (.slice (some ⟨g, 0, none⟩) n n) (ls.map vaF) → Env w → Calls Tryz.prog 50 #[.slice (some ⟨g, 0, none⟩) n n] w fun e w' => e = .returned (.agg (rowOf .u8 32 RT)) ∧ Below w.heap.size w w' from fun g n w hn h he => by rw [hRT]; exact root_any n _ (by simp [hn]) _ w h he)
  obtain ⟨L, hL⟩ : ∃ L : Nat → Nat → Int, L = fun i => (ls.map vaF).getD i zeroH := ⟨_, rfl⟩
  have HL := Lib.hid hL
  obtain ⟨n, hnn⟩ : ∃ n, n = ls.length := ⟨_, rfl⟩
  have HN := Lib.hid hnn
  have hn1 : n ≤ 1048576 := by omega
  have hnI : (n : Int) ≤ 1048576 := by omega
  rw [← hnn] at HT ⊢
  rw [← hRT]
  obtain ⟨C, hCs, hmk⟩ := makeH11 n hn1
  clear he ht ho hn hmax hz hRT hL hnn
  go_enter Tryz.func26, Tryz.ntmps26
  go_upto_region 1 with (fail)
  rw [zeros32]
  generalize h1 : w.alloc (.cells (rowOf .u8 32 (fun _ => 0)) 23) = w1
  have H1 := Lib.hid h1
  clear h1
  go_upto_region 2 with (fail)
  have M := Lib.hid (HsM.start L hCs w1 H1.out)
  obtain ⟨g, hg⟩ : ∃ g, g = w1.heap.size := ⟨_, rfl⟩
  rw [← hg] at M ⊢
  clear hg hmk hCs H1
  generalize w1.alloc (.cells C 23) = w2 at *
  go_wp2_with (fail)
  go_loopw [11] (fun i wr => ∃ m : Nat, m ≤ n ∧ i = .int .i64 (m : Int) ∧ Hid (HsM w wr g n m L)) (fun i _ => n - (intOf i).toNat)
  case atStart => exact ⟨0, by omega, rfl, M⟩
  case round =>
    clear M
    obtain ⟨m, hm, rfl, M⟩ := hrel
    by_cases hlt : m < n
    · have hltI : (m : Int) < (n : Int) := by omega
      have HLT := Lib.hid hlt
      obtain ⟨x, hx⟩ : ∃ x, ls[m]? = some x := ⟨ls[m]'(by have := HN.out; omega), List.getElem?_eq_getElem _⟩
      have hv := HT.out.below M.out.below
      rw [HN.out] at hv
      obtain ⟨ab, ao, rfl, hab, hra⟩ := hv.at hx
      have HBX := Lib.hid (HTS.out x (List.mem_of_getElem? hx))
      have HZX := Lib.hid (HZ.out x (List.mem_of_getElem? hx))
      have HLM := Lib.hid (show L m = vaF x from by rw [HL.out]; exact map_getD11 hx)
      have HRA := Lib.hid hra
      clear hra
      clear hv hab hx
      obtain ⟨f, hf⟩ : ∃ f, f = vaF x := ⟨_, rfl⟩
      have HF := Lib.hid hf
      have RP := Lib.hid (show ∀ vb W, BytesIn W vb (va1 x) → Below w.heap.size w W → Calls Tryz.prog 49 #[vb] W fun e w' => e = .returned (.agg (rowOf .u8 32 f)) ∧ Below W.heap.size W w' from fun vb W h hb => by rw [hf]; exact leaf_any vb _ W h (HE.out.below hb HG.out))
      have RE := Lib.hid (fun W => encval_any x W HBX.out (by have := HZX.out; omega))
      clear hf
      go_upto_region 6 with (first
        | (refine wpList_load_rowT (by rfl) 54 (.tmp 14) rfl ab (ao + m * 34) rfl (vaC x) _ HRA.out Tryz.underlying54 rfl (by rw [vaC_size]; kernel_rfl) ?_)
        | (refine wpList_store_row rfl 54 (.tmp 5) (.tmp 15) rfl wr.heap.size (vaC x) rfl rfl 54 _ (heap_alloc_new _ _) (by rw [vaC_size]; kernel_rfl) (by rw [vaC_size]; rfl) (vaC_one _) ?_; rw [World.setRow_alloc_new]; have HQ := Lib.hid (heap_alloc_new wr (.cells (vaC x) 54)); replace M := Lib.hid (M.out.call (below_alloc wr (.cells (vaC x) 54))); generalize wr.alloc (.cells (vaC x) 54) = w3 at *)
        | (refine wpList_load_row rfl 54 (.tmp 5) rfl wr.heap.size rfl 54 (vaC x) (0, 0) _ HQ.out Tryz.underlying54 rfl (by rw [vaC_size]; kernel_rfl) ?_)
        | (go_at_call 75; (with_reducible refine (RE.out _).mono ?_); rintro e w4 ⟨vb, rfl, hbv, hb⟩; have HBV := Lib.hid hbv; replace M := Lib.hid (M.out.call hb); clear hb hbv)
        | (go_at_call 49; (with_reducible refine (RP.out _ _ HBV.out M.out.below).mono ?_); rintro e w5 ⟨rfl, hb⟩; replace M := Lib.hid (M.out.call hb); clear hb)
        | (refine wpList_store_mid rfl 23 (.tmp 21) (.tmp 20) rfl g (m * 32) (rowOf .u8 32 f) rfl rfl (M.out.lv.there m HLT.out (rowOf_size _ _ _)) (by rw [rowOf_size]; kernel_rfl) (rowOf_one _ _ _) ?_))
      replace M := Lib.hid (M.out.put HLT.out (HLM.out.trans HF.out.symm))
      generalize World.setCells _ g (m * 32) (rowOf .u8 32 f).toList = w9 at *
      go_wp2_with (fail)
      go_roundw
      case rel => exact ⟨m + 1, by omega, by go_num, M⟩
      case measure => simp [intOf]; omega
    · obtain rfl : m = n := by omega
      have HH := Lib.hid (M.out.lv.hashes (hs := ls.map vaF) (by unfold maxLen; omega) (by rw [List.length_map, HN.out]) (fun i _ => by rw [HL.out]))
      go_wp2_with (first
        | (go_at_call 50; (with_reducible refine (HRT.out _ _ _ HN.out HH.out (HE.out.below M.out.below HG.out)).mono ?_); rintro e w5 ⟨rfl, hb⟩; replace M := Lib.hid (M.out.call hb); clear hb)
        | (refine wpList_store_row rfl 23 (.tmp 2) (.tmp 24) rfl w.heap.size (rowOf .u8 32 RT) rfl rfl 23 _ M.out.res (by rw [rowOf_size]; kernel_rfl) (by rw [rowOf_size, rowOf_size]) (rowOf_one _ _ _) ?_))
      refine bodyPost_ret (results_cell_row rfl _ _ w.heap.size 23 (rowOf .u8 32 RT) (0, 0) _ rfl (setRow_heap _ _ _ _ _ _ M.out.res) Tryz.underlying23 rfl (by rw [rowOf_size]; kernel_rfl)) rfl ?_
      exact ⟨rfl, below_setRow M.out.below (Nat.le_refl _) _⟩
set_option maxHeartbeats 8000000 in
theorem rset_any (ls : List Va) (lv : Value) (w : World) (ht : VaIn w lv ls) (ho : ∀ t ∈ ls, -9223372036854775808 ≤ t.pow ∧ t.pow ≤ 9223372036854775807) (hz : ∀ t ∈ ls, (va1 t).length + 481 ≤ 140737488355328) (hn : ls.length ≤ 1048576) :
    Calls Tryz.prog 27 #[lv] w fun e w' => e = .returned (.agg (rowOf .u8 32 (rootF (ls.map vaF)))) ∧ Below w.heap.size w w' := by
  obtain ⟨a, cap, rfl, -, hmax⟩ := ht.len
  have HT := Lib.hid ht
  have HTS := Lib.hid ho
  have HZ := Lib.hid hz
  obtain ⟨RT, hRT⟩ : ∃ R, R = rootF (ls.map vaF) := ⟨_, rfl⟩
  have HRT := Lib.hid (show ∀ v w, HashesIn w v (ls.map vaF) → Calls Tryz.prog 52 #[v] w fun e w' => e = .returned (.agg (rowOf .u8 32 RT)) ∧ Below w.heap.size w w' from fun v w h => by rw [hRT]; exact rroot_any _ _ rfl _ w h)
  obtain ⟨n, hnn⟩ : ∃ n, n = ls.length := ⟨_, rfl⟩
  have HN := Lib.hid hnn
  have hnI : (n : Int) ≤ 1048576 := by omega
  have hn1 : n ≤ 1048576 := by omega
  rw [← hnn] at HT ⊢
  rw [← hRT]
  clear ht ho hn hmax hz hRT hnn
  go_enter Tryz.func27, Tryz.ntmps27
  go_upto_region 1 with (fail)
  rw [zeros32]
  have M := Lib.hid (show HrM w (w.alloc (.cells (rowOf .u8 32 (fun _ => 0)) 23)) (.slice none 0 0) [] from ⟨below_alloc _ _, heap_alloc_new _ _, World.ownsRow_nil _ _ _ _, by simp⟩)
  generalize w.alloc (.cells (rowOf .u8 32 (fun _ => 0)) 23) = w1 at *
  go_wp2_with (fail)
  go_loopw [3, 4] (fun r i wr => ∃ m : Nat, m ≤ n ∧ i = .int .i64 (m : Int) ∧ Hid (HrM w wr r ((ls.take m).map vaF))) (fun _ i _ => n - (intOf i).toNat)
  case atStart => exact ⟨0, Nat.zero_le _, rfl, M⟩
  case round =>
    clear M
    obtain ⟨m, hm, rfl, M⟩ := hrel
    obtain ⟨ap, cp, rfl⟩ := flat_wide11 M.out.own
    have HPL := Lib.hid (show ((ls.take m).map vaF).length = m from by rw [List.length_map, List.length_take]; have := HN.out; omega)
    by_cases hlt : m < n
    · have hmI : (m : Int) < (n : Int) := by omega
      obtain ⟨x, hx⟩ : ∃ x, ls[m]? = some x := ⟨ls[m]'(by have := HN.out; omega), List.getElem?_eq_getElem _⟩
      have hv := HT.out.below M.out.below
      rw [HN.out] at hv
      obtain ⟨ab, ao, rfl, hab, hra⟩ := hv.at hx
      have HBX := Lib.hid (HTS.out x (List.mem_of_getElem? hx))
      have HZX := Lib.hid (HZ.out x (List.mem_of_getElem? hx))
      have HTK := Lib.hid (show (ls.take (m + 1)).map vaF = (ls.take m).map vaF ++ [vaF x] from by rw [List.take_add_one, hx, List.map_append]; rfl)
      have HRA := Lib.hid hra
      clear hra
      clear hv hab hx
      obtain ⟨f, hf⟩ : ∃ f, f = vaF x := ⟨_, rfl⟩
      have RP := Lib.hid (show ∀ vb W, BytesIn W vb (va1 x) → Calls Tryz.prog 51 #[vb] W fun e w' => e = .returned (.agg (rowOf .u8 32 f)) ∧ Below W.heap.size W w' from fun vb W h => by rw [hf]; exact rleaf_any vb _ W h (by have := HZX.out; omega))
      have RE := Lib.hid (show ∀ W, Calls Tryz.prog 77 #[.slice none 0 0, .agg (vaC x)] W fun e w' => ∃ vb, e = .returned vb ∧ BytesIn w' vb (va1 x) ∧ Below W.heap.size W w' from fun W => by have := rrefvalC_any (.slice none 0 0) [] x W (nil_in W) HBX.out (by have := HZX.out; simp only [List.length_nil]; omega); simpa only [List.nil_append] using this)
      rw [← hf] at HTK
      clear hf
      obtain ⟨ps, hps⟩ : ∃ ps, ps = (ls.take m).map vaF := ⟨_, rfl⟩
      rw [← hps] at M HPL HTK ⊢
      clear hps
      have hsz32 := rowOf_size .u8 32 f
      go_upto_region 4 with (first
        | (refine wpList_load_rowT (by rfl) 54 (.tmp 14) rfl ab (ao + m * 34) rfl (vaC x) _ HRA.out Tryz.underlying54 rfl (by rw [vaC_size]; kernel_rfl) ?_)
        | (go_at_call 77; (with_reducible refine (RE.out _).mono ?_); rintro e w4 ⟨vb, rfl, hbv, hb⟩; have HBV := Lib.hid hbv; replace M := Lib.hid (M.out.call hb); clear hb hbv)
        | (go_at_call 51; (with_reducible refine (RP.out _ _ HBV.out).mono ?_); rintro e w5 ⟨rfl, hb⟩; replace M := Lib.hid (M.out.call hb); clear hb)
        | (at_builtin; rw [build32s]; have HR := Lib.hid (heap_alloc_new w5 (.cells (rowOf .u8 32 f) 23)); replace M := Lib.hid (M.out.call (below_alloc w5 (.cells (rowOf .u8 32 f) 23))); generalize w5.alloc (.cells (rowOf .u8 32 f) 23) = w6 at *; (refine wpList_append_hashes rfl (.tmp 11) (.tmp 18) rfl rfl (w.heap.size + 1) _ ps.length _ rfl M.out.own _ [f] rfl (one_hash11 HR.out) (by rw [HPL.out]; show (m + 1) * 32 ≤ _; omega) M.out.size ?_); intro v' w7 ho hg; have M2 := Lib.hid (M.out.more hg ho); clear ho hg HR M))
      go_wp2_with (fail)
      go_roundw
      case rel => exact ⟨m + 1, by omega, by go_num, Lib.hid (by rw [HTK.out]; exact M2.out)⟩
      case measure => simp [intOf]; omega
    · obtain rfl : m = n := by omega
      have HH := Lib.hid (show HashesIn wr (.slice ap ((ls.take m).map vaF).length cp) (ls.map vaF) from by
        have h := HashesIn.of_own M.out.own
        have e : (ls.take m).map vaF = ls.map vaF := by rw [HN.out, List.take_length]
        rw [e] at h ⊢
        exact h)
      rw [HPL.out] at HH ⊢
      go_wp2_with (first
        | (go_at_call 52; (with_reducible refine (HRT.out _ _ HH.out).mono ?_); rintro e w5 ⟨rfl, hb⟩; replace M := Lib.hid (M.out.call hb); clear hb)
        | (refine wpList_store_row rfl 23 (.tmp 2) (.tmp 21) rfl w.heap.size (rowOf .u8 32 RT) rfl rfl 23 _ M.out.res (by rw [rowOf_size]; kernel_rfl) (by rw [rowOf_size, rowOf_size]) (rowOf_one _ _ _) ?_))
      refine bodyPost_ret (results_cell_row rfl _ _ w.heap.size 23 (rowOf .u8 32 RT) (0, 0) _ rfl (setRow_heap _ _ _ _ _ _ M.out.res) Tryz.underlying23 rfl (by rw [rowOf_size]; kernel_rfl)) rfl ?_
      exact ⟨rfl, below_setRow M.out.below (Nat.le_refl _) _⟩
end Go.Proofs.YteokgklfljhcaaaGreatDoor
namespace Go.Proofs.YteokgklfljhcaaaGreatDoor
set_option linter.unusedVariables false
set_option linter.unusedSimpArgs false
open Go.RowKit
open Go.Maps (Keyed setOf)
set_option maxRecDepth 100000
set_option linter.unusedSimpArgs false
set_option linter.unusedVariables false
set_option maxHeartbeats 4000000 in
theorem vtrust_any (old l : List Va) (vs : List Vo) (c : Cm) (ov lv vv : Value) (w : World) (ho : VaIn w ov old) (hl : VaIn w lv l) (hv : VoIn w vv vs) (hwo : ∀ x ∈ old, VaWf x) (hwf : ∀ x ∈ l, VaWf x) (hn : l.length ≤ 1048576) (hsv : ∀ t ∈ vs, ∃ a n c, t.sv = .slice a n c) :
    Calls Tryz.prog 67 #[ov, lv, .agg (cmC c vv)] w fun e w' => e = .returned (errV (vtE old l vs)) ∧ Below w.heap.size w w' := by
  obtain ⟨oa, oc, rfl, -, hom⟩ := ho.len
  obtain ⟨la, lc, rfl, -, -⟩ := hl.len
  obtain ⟨qa, qc, rfl, -, -⟩ := hv.len
  have HB := Lib.hid (below_alloc w (.cells (cmC c (.slice qa vs.length qc)) 29))
  have c34 := (cm_cells (heap_alloc_new w (.cells (cmC c (.slice qa vs.length qc)) 29))).2.2.2
  have HO := Lib.hid ho
  have HVS := Lib.hid (voters_any l vs (.slice la l.length lc) (.slice qa vs.length qc) _ (hl.below HB.out) (hv.below HB.out) hwf hn hsv)
  have HWO := Lib.hid hwo
  have HTO := Lib.hid (fun w h => total_any old (.slice oa old.length oc) w h)
  have HTH := Lib.hid (fun p t w => third_any p t w)
  obtain ⟨no, hno⟩ : ∃ n, n = old.length := ⟨_, rfl⟩
  have HNO := Lib.hid hno
  have hn1 : no ≤ 9223372036854775807 := by unfold maxLen at hom; omega
  rw [← hno] at HO HTO ⊢
  obtain ⟨E, hE⟩ : ∃ E, E = vtE old l vs := ⟨_, rfl⟩
  have HEE := Lib.hid hE
  rw [← hE]
  clear ho hl hv hwo hwf hn hsv hom hno hE
  go_enter Tryz.func67, Tryz.ntmps67
  go_upto_region 1 with (fail)
  generalize w.alloc (.cells (cmC c (.slice qa vs.length qc)) 29) = w1 at *
  go_upto_region 4 with (go_at_call 116; (with_reducible refine HVS.out.mono ?_); rintro e w2 ⟨g, bm, n, acc, rfl, hvt, hac, hb⟩; have HVT := Lib.hid hvt; have HAC := Lib.hid hac; replace HB := Lib.hid (HB.out.trans (hb.mono HB.out.size)); clear hvt hac hb)
  clear HVS c34
  have HR0 := Lib.hid (show (0 : Int) = trP l (votedF vs) (old.take 0) 0 ∧ Below w.heap.size w w2 ∧ VtM w2 g bm n acc from ⟨rfl, HB.out, HVT.out⟩)
  clear HVT HB
  go_wp2_with (fail)
  go_loopw [8, 17] (fun y x wr => ∃ (k : Nat) (s : Int), k ≤ no ∧ y = .int .i64 s ∧ x = .int .i64 (k : Int) ∧ Hid (s = trP l (votedF vs) (old.take k) 0 ∧ Below w.heap.size w wr ∧ VtM wr g bm n acc)) (fun _ x _ => no - (intOf x).toNat)
  case atStart => exact ⟨0, _, Nat.zero_le _, rfl, rfl, HR0⟩
  case round =>
    clear HR0
    obtain ⟨k, s, hkn, rfl, rfl, HR⟩ := hrel
    by_cases hlt : k < no
    · have hltI : (k : Int) < (no : Int) := by omega
      obtain ⟨x, hx⟩ : ∃ x, old[k]? = some x := ⟨old[k]'(by have := HNO.out; omega), List.getElem?_eq_getElem _⟩
      have hv := HO.out.below HR.out.2.1
      rw [HNO.out] at hv
      obtain ⟨ab, ao, rfl, hab, hra⟩ := hv.at hx
      have HRA := Lib.hid hra
      have HTS := Lib.hid (trP_take (l := l) (f := votedF vs) hx)
      have HXW := Lib.hid (HWO.out x (List.mem_of_getElem? hx))
      clear hv hab hra hx
      go_upto_region 6 with (first
        | (refine wpList_load_rowT (by rfl) 54 (.tmp 19) rfl ab (ao + k * 34) rfl (vaC x) _ HRA.out Tryz.underlying54 rfl (by rw [vaC_size]; kernel_rfl) ?_)
        | (refine wpList_store_row rfl 54 (.tmp 10) (.tmp 20) rfl wr.heap.size (vaC x) rfl rfl 54 _ (heap_alloc_new _ _) (by rw [vaC_size]; kernel_rfl) (by rw [vaC_size]; rfl) (vaC_one _) ?_; rw [World.setRow_alloc_new]))
      have hba := below_alloc wr (.cells (vaC x) 54)
      have HQ := Lib.hid (heap_alloc_new wr (.cells (vaC x) 54))
      have HB2 := Lib.hid (HR.out.2.1.trans (hba.mono HR.out.2.1.size))
      have HV2 := Lib.hid (HR.out.2.2.below hba)
      obtain ⟨q, hq⟩ : ∃ q, q = wr.heap.size := ⟨_, rfl⟩
      rw [← hq] at HQ ⊢
      clear hba hq
      generalize wr.alloc (.cells (vaC x) 54) = w3 at *
      have HCC := Lib.hid (votersC_any x l (votedF vs) l.length g bm n acc w3 HV2.out HAC.out HXW.out)
      cases hf : foundB l (votedF vs) l.length x with
      | true =>
        rw [hf] at HCC HTS
        simp only [if_true] at HTS
        clear hf
        go_upto_region 7 with (first
          | (refine wpList_load_rowT (by rfl) 54 (.tmp 10) rfl q 0 rfl (vaC x) _ (rowT_range HQ.out) Tryz.underlying54 rfl (by rw [vaC_size]; kernel_rfl) ?_)
          | (go_at_call 152; (with_reducible refine HCC.out.mono ?_); rintro e w4 ⟨rfl, hb⟩; replace HB2 := Lib.hid (HB2.out.trans (hb.mono HB2.out.size)); replace HV2 := Lib.hid (HV2.out.below hb); replace HQ := Lib.hid ((hb.block _ (bkT_lt HQ.out)).trans HQ.out); clear hb))
        have c33 := (va_cells HQ.out).2.1
        go_wp2_with (fail)
        go_roundw
        case rel => exact ⟨k + 1, wrap64 (s + x.pow), by omega, rfl, by go_num, Lib.hid ⟨by rw [HTS.out, HR.out.1], HB2.out, HV2.out⟩⟩
        case measure => simp [intOf]; omega
      | false =>
        rw [hf] at HCC HTS
        simp only [Bool.false_eq_true, if_false] at HTS
        clear hf
        go_wp2_with (first
          | (refine wpList_load_rowT (by rfl) 54 (.tmp 10) rfl q 0 rfl (vaC x) _ (rowT_range HQ.out) Tryz.underlying54 rfl (by rw [vaC_size]; kernel_rfl) ?_)
          | (go_at_call 152; (with_reducible refine HCC.out.mono ?_); rintro e w4 ⟨rfl, hb⟩; replace HB2 := Lib.hid (HB2.out.trans (hb.mono HB2.out.size)); replace HV2 := Lib.hid (HV2.out.below hb); clear hb))
        go_roundw
        case rel => exact ⟨k + 1, s, by omega, rfl, by go_num, Lib.hid ⟨by rw [HTS.out]; exact HR.out.1, HB2.out, HV2.out⟩⟩
        case measure => simp [intOf]; omega
    · obtain rfl : k = no := by omega
      have HTO2 := Lib.hid (HTO.out wr (HO.out.below HR.out.2.1))
      have HEQ := Lib.hid (show E = if thirdB s (totV old) then none else some 32 from by rw [HEE.out, HR.out.1, HNO.out, List.take_length]; rfl)
      have HB := Lib.hid HR.out.2.1
      clear HR HTO HEE
      cases ht : thirdB s (totV old) with
      | true =>
        rw [ht] at HEQ
        have HTT := Lib.hid (fun w => by have := HTH.out s (totV old) w; rw [ht] at this; exact this)
        clear ht
        go_wp2_with (first
          | (go_at_call 24; (with_reducible refine HTO2.out.mono ?_); rintro e w3 ⟨rfl, hb⟩; replace HB := Lib.hid (HB.out.trans (hb.mono HB.out.size)); clear hb)
          | (go_at_call 117; (with_reducible refine (HTT.out _).mono ?_); rintro e w4 ⟨rfl, rfl⟩))
        go_ret
        exact ⟨by rw [HEQ.out]; rfl, HB.out⟩
      | false =>
        rw [ht] at HEQ
        have HTT := Lib.hid (fun w => by have := HTH.out s (totV old) w; rw [ht] at this; exact this)
        clear ht
        go_wp2_with (first
          | (go_at_call 24; (with_reducible refine HTO2.out.mono ?_); rintro e w3 ⟨rfl, hb⟩; replace HB := Lib.hid (HB.out.trans (hb.mono HB.out.size)); clear hb)
          | (go_at_call 117; (with_reducible refine (HTT.out _).mono ?_); rintro e w4 ⟨rfl, rfl⟩))
        go_ret
        exact ⟨by rw [HEQ.out]; rfl, HB.out⟩
end Go.Proofs.YteokgklfljhcaaaGreatDoor

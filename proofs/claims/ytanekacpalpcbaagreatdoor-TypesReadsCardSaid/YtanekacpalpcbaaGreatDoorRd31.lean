/- Part 31 of the proof. -/
import Derived.Test.YtanekacpalpcbaaGreatDoorRd12
import Derived.Test.YtanekacpalpcbaaGreatDoorRd20
import Derived.Test.YtanekacpalpcbaaGreatDoorRd29
import Derived.Test.YtanekacpalpcbaaGreatDoorRd30
namespace Go.Proofs.YtanekacpalpcbaaGreatDoor
set_option linter.unusedVariables false
set_option linter.unusedSimpArgs false
open Go.RowKit
set_option maxRecDepth 100000
set_option linter.unusedSimpArgs false
set_option linter.unusedVariables false
theorem bkD_s0 {HC : Array Value} {tv : Value} {CC : Array Value} {HC' : Array Value} {w : World} {g : Nat} {T : TypeId} (hHC : HC.size = 164) (hCC : CC.size = 35) (hHC' : HC'.size = 164) (h : w.heap[g]? = some (.cells (bkD HC tv CC) T (0, 0))) : (w.setCells g 0 (HC').toList).heap[g]? = some (.cells (bkD HC' tv CC) T (0, 0)) := setT_app (A := #[]) (B := HC) (C := #[tv] ++ (CC)) h (by apply Array.toList_inj.1; simp [bkD, rowOf_size, hHC, hCC, hHC']) (by apply Array.toList_inj.1; simp [bkD, rowOf_size, hHC, hCC, hHC']) (by simp [bkD, rowOf_size, hHC, hCC, hHC']) (by simp [bkD, rowOf_size, hHC, hCC, hHC'])
theorem bkD_t0 {HC : Array Value} {tv : Value} {CC : Array Value} {w : World} {g : Nat} {T : TypeId} (hHC : HC.size = 164) (hCC : CC.size = 35) (h : w.heap[g]? = some (.cells (bkD HC tv CC) T (0, 0))) : w.there g 0 164 := by
  have := thereT (A := #[]) (B := HC) (C := #[tv] ++ (CC)) (n := 0) h (by apply Array.toList_inj.1; simp [bkD, rowOf_size, hHC, hCC]) (by simp [bkD, rowOf_size, hHC, hCC])
  have e : (HC).size = 164 := by simp [bkD, rowOf_size, hHC, hCC]
  rwa [e] at this
theorem bkD_c1 {HC : Array Value} {tv : Value} {CC : Array Value} {w : World} {g : Nat} {T : TypeId} (hHC : HC.size = 164) (hCC : CC.size = 35) (h : w.heap[g]? = some (.cells (bkD HC tv CC) T (0, 0))) : w.cell? ⟨g, 164, none⟩ = some (tv) := cellT_app (x := tv) (A := HC) (C := CC) h (by apply Array.toList_inj.1; simp [bkD, rowOf_size, hHC, hCC]) (by simp [bkD, rowOf_size, hHC, hCC])
theorem bkD_s1 {HC : Array Value} {tv : Value} {CC : Array Value} {tv' : Value} {w : World} {g : Nat} {T : TypeId} (hHC : HC.size = 164) (hCC : CC.size = 35) (h : w.heap[g]? = some (.cells (bkD HC tv CC) T (0, 0))) : (w.setCell ⟨g, 164, none⟩ (tv')).heap[g]? = some (.cells (bkD HC tv' CC) T (0, 0)) := setT_one (x := tv) (y := tv') (A := HC) (C := CC) h (by apply Array.toList_inj.1; simp [bkD, rowOf_size, hHC, hCC]) (by apply Array.toList_inj.1; simp [bkD, rowOf_size, hHC, hCC]) (by simp [bkD, rowOf_size, hHC, hCC])
theorem bkD_s2 {HC : Array Value} {tv : Value} {CC : Array Value} {CC' : Array Value} {w : World} {g : Nat} {T : TypeId} (hHC : HC.size = 164) (hCC : CC.size = 35) (hCC' : CC'.size = 35) (h : w.heap[g]? = some (.cells (bkD HC tv CC) T (0, 0))) : (w.setCells g 165 (CC').toList).heap[g]? = some (.cells (bkD HC tv CC') T (0, 0)) := setT_app (A := HC ++ #[tv]) (B := CC) (C := #[]) h (by apply Array.toList_inj.1; simp [bkD, rowOf_size, hHC, hCC, hCC']) (by apply Array.toList_inj.1; simp [bkD, rowOf_size, hHC, hCC, hCC']) (by simp [bkD, rowOf_size, hHC, hCC, hCC']) (by simp [bkD, rowOf_size, hHC, hCC, hCC'])
theorem bkD_t2 {HC : Array Value} {tv : Value} {CC : Array Value} {w : World} {g : Nat} {T : TypeId} (hHC : HC.size = 164) (hCC : CC.size = 35) (h : w.heap[g]? = some (.cells (bkD HC tv CC) T (0, 0))) : w.there g 165 35 := by
  have := thereT (A := HC ++ #[tv]) (B := CC) (C := #[]) (n := 165) h (by apply Array.toList_inj.1; simp [bkD, rowOf_size, hHC, hCC]) (by simp [bkD, rowOf_size, hHC, hCC])
  have e : (CC).size = 35 := by simp [bkD, rowOf_size, hHC, hCC]
  rwa [e] at this
theorem hd_k11 {s : RSt} (h : okR11 s) : okR11 (hdR s) := by
  unfold hdR hdT7 hdT6 hdT5 hdT4 hdT3 hdT2 hdT1 hdT0
  exact intS_k11 (hashS_k11 (hashS_k11 (hashS_k11 (hashS_k11 (hashS_k11 (intS_k11 (intS_k11 (partS_k11 h))))))))
theorem txN_k11 {s : RSt} (h : okR11 s) : ∀ k, okR11 (txN k s)
  | 0 => h
  | k + 1 => by
    show okR11 (partS (txN k s) 65536).2
    exact partS_k11 (txN_k11 h k)
theorem RowsIn.keep11 {α : Type} {n N : Nat} {C : α → List Value} {w w' : World} {v : Value} {l : List α} (h : RowsIn n C w v l) (ho : ∀ k, v.ownBlock = some k → N ≤ k) (hk : ∀ j, N ≤ j → j < w.heap.size → w'.heap[j]? = w.heap[j]?) (hs : w.heap.size ≤ w'.heap.size) : RowsIn n C w' v l := by
  obtain ⟨a, cap, rfl, hc, hm, hx⟩ := h
  refine ⟨a, cap, rfl, hc, hm, hx.imp id ?_⟩
  rintro ⟨ab, ao, rfl, hlt, hx⟩
  exact ⟨ab, ao, rfl, Nat.lt_of_lt_of_le hlt hs, fun i p hi j u hu => (World.cell?_of_block (hk ab (ho ab rfl) hlt)).trans (hx i p hi j u hu)⟩
theorem VL.keep11 {w w' : World} {N : Nat} {vv : Value} {l : List Vo} (h : VL w N vv l) (hk : ∀ j, N ≤ j → j < w.heap.size → w'.heap[j]? = w.heap[j]?) (hs : w.heap.size ≤ w'.heap.size) : VL w' N vv l :=
  ⟨h.rows.keep11 h.own hk hs, h.own, fun t ht => ⟨bytes_blk11 (h.el t ht).1 fun hn j hj => hk j ((h.el t ht).2 j hj) (bytes_own11 (h.el t ht).1 hn j hj), (h.el t ht).2⟩⟩
theorem bkZ_one : (bkD (hdD { data := #[] } 0 0 (fun _ => 0) (fun _ => 0) (fun _ => 0) (fun _ => 0) (fun _ => 0) 0) (.slice none 0 0) (cmD 0 0 (fun _ => 0) (.slice none 0 0))).all (·.oneCell') = true := bkD_one (hdD_one11 _ _ _ _ _ _ _ _ _) (cmD_one _ _ _ _ _ _)
/-- in the loop of ReadBlock -/
def RbR (w : World) (q : Nat) (Z : Array Value) (ob : Option Nat) (s0 : RSt) (HC CC : Array Value) (B k : Nat) (wr : World) : Prop :=
  ∃ vv svs, svs.length = k ∧ RrM w w.heap.size q 80 Z ob (txN k s0) (bkD HC vv CC) wr ∧ LsM 1 tbTL 34 Tb.bv Tb.bs B vv (txs s0 svs) wr ∧ q < B ∧ B ≤ wr.heap.size
set_option maxHeartbeats 8000000 in
theorem rdblock_any (v : Value) (s : RSt) (w : World) (hy : BytesIn w v s.1) (ok : okR11 s) :
    Calls Tryz.prog 126 #[.agg (rdC v (numE s.2))] w fun e w' => ∃ v' tv tvs vv svs, tvs.length = (countS (hdR s) 64).1 ∧ svs.length = (countS (cmT (bkT s)) 32).1 ∧ e = .returned (.tuple #[.agg (rdC v' (numE (cmR (bkT s)).2)), .agg (bkD (hdV s) tv (cmC (cmV (bkT s)) vv))]) ∧ BytesIn w' v' (cmR (bkT s)).1 ∧ v'.ownBlock = v.ownBlock ∧ TL w' w.heap.size tv (txs (countS (hdR s) 64).2 tvs) ∧ VL w' w.heap.size vv (vts (countS (cmT (bkT s)) 32).2 svs) ∧ Below w.heap.size w w' := by
  obtain ⟨HC, hHC⟩ : ∃ x, x = hdV s := ⟨_, rfl⟩
  have HHS := Lib.hid (show HC.size = 164 from by rw [hHC]; exact hdD_size _ _ _ _ _ _ _ _ _)
  have HHO := Lib.hid (show HC.all (·.oneCell') = true from by rw [hHC]; exact hdD_one11 _ _ _ _ _ _ _ _ _)
  have HHC := Lib.hid hHC
  obtain ⟨s1, hs1⟩ : ∃ x, x = hdR s := ⟨_, rfl⟩
  have ok1 : okR11 s1 := by rw [hs1]; exact hd_k11 ok
  have HC1 := Lib.hid (show ∀ v X, BytesIn X v s.1 → Calls Tryz.prog 123 #[.agg (rdC v (numE s.2))] X fun e w' => ∃ v', e = .returned (.tuple #[.agg (rdC v' (numE s1.2)), .agg HC]) ∧ BytesIn w' v' s1.1 ∧ v'.ownBlock = v.ownBlock ∧ Below X.heap.size X w' from fun v X h => by rw [hs1, hHC]; exact rdheader_any v s X h ok)
  have HEs1 := Lib.hid (show s.1 = [] → s1.1 = [] from fun h => by rw [hs1]; exact hdE11 h)
  obtain ⟨n, s2, e2⟩ : ∃ a b, countS s1 64 = (a, b) := ⟨_, _, rfl⟩
  have ok2 : okR11 s2 := by have := countS_k11 (most := 64) ok1; rwa [e2] at this
  have HC2 := Lib.hid (rc_let (most := 64) (m := 64) (by omega) rfl e2 ok1)
  have HEs2 := Lib.hid (show s1.1 = [] → s2.1 = [] from fun h => by have := cntE11 (most := 64) h; rwa [e2] at this)
  have HCT := Lib.hid (show countS (hdR s) 64 = (n, s2) from by rw [← hs1]; exact e2)
  have hn64 : n ≤ 64 := by have := cnt_le11 s1 64; rw [e2] at this; exact this
  obtain ⟨s7, hs7⟩ : ∃ x, x = txN n s2 := ⟨_, rfl⟩
  have HS7 := Lib.hid hs7
  have HBT := Lib.hid (show bkT s = s7 from by unfold bkT; rw [HCT.out, hs7])
  obtain ⟨s8, hs8⟩ : ∃ x, x = cmR s7 := ⟨_, rfl⟩
  have HS8 := Lib.hid hs8
  have HC7 := Lib.hid (show ∀ v X, BytesIn X v s7.1 → Calls Tryz.prog 120 #[.agg (rdC v (numE s7.2))] X fun e w' => ∃ v' cv cvs, cvs.length = (countS (cmT s7) 32).1 ∧ e = .returned (.tuple #[.agg (rdC v' (numE s8.2)), .agg (cmC (cmV s7) cv)]) ∧ BytesIn w' v' s8.1 ∧ v'.ownBlock = v.ownBlock ∧ VL w' X.heap.size cv (vts (countS (cmT s7) 32).2 cvs) ∧ Below X.heap.size X w' from fun v X h => by rw [hs8]; exact rdcommit_any v s7 X h (by rw [hs7]; exact txN_k11 ok2 n))
  have HEs8 := Lib.hid (show s7.1 = [] → s8.1 = [] from fun h => by rw [hs8]; exact cmE11 h)
  have HOK := Lib.hid ok2
  clear e2 ok1 ok2 hHC hs1 hs7 hs8
  obtain ⟨va, vc, rfl, -⟩ := id hy
  obtain ⟨CZ, hbz, hCZ⟩ : ∃ C, Tryz.prog.built 80 [] = some C ∧ C = bkD (hdD { data := #[] } 0 0 (fun _ => 0) (fun _ => 0) (fun _ => 0) (fun _ => 0) (fun _ => 0) 0) (.slice none 0 0) (cmD 0 0 (fun _ => 0) (.slice none 0 0)) := ⟨_, by kernel_rfl, rfl⟩
  have HCZ := Lib.hid hCZ
  have HBZ := Lib.hid hbz
  have HCS := Lib.hid ((congrArg Array.size hCZ).trans (bkD_size (hdD_size _ _ _ _ _ _ _ _ _) (cmD_size _ _ _ _)))
  have HCO := Lib.hid (show CZ.all (·.oneCell') = true from by rw [hCZ]; exact bkZ_one)
  have HST := Lib.hid (fun (w1 : World) (Z : Array Value) (hZ : Z.size = 200) (hA : ((w.alloc (.cells (rdC (.slice va s.1.length vc) (numE s.2)) 152)).alloc (.cells (rdC (.slice none 0 0) 0) 152)).alloc (.cells Z 80) = w1) => rr_start hy hZ hA)
  clear hy ok hCZ hbz
  go_enter Tryz.func126, Tryz.ntmps126
  go_upto_region 1 with (fail)
  rw [← r2_zero]
  generalize hA : World.alloc (World.alloc (World.alloc w _) _) _ = w1
  have HST1 := Lib.hid (HST.out w1 _ (by kernel_rfl) hA)
  clear hA HST
  go_upto_region 2 with (first
    | (refine wpList_buildTo rfl 80 #[] rfl (some 8) rfl CZ (by refine Eq.trans (congrArg (Tryz.prog.built 80) ?_) HBZ.out; kernel_rfl) ?_)
    | (refine wpList_store_row rfl 80 (.tmp 4) (.tmp 8) rfl w1.heap.size CZ rfl rfl 80 _ (heap_alloc_new _ _) (by rw [HCS.out]; kernel_rfl) (by rw [HCS.out]; kernel_rfl) HCO.out ?_; rw [World.setRow_alloc_new]))
  clear HBZ
  obtain ⟨Z, hZ, hM⟩ := HST1.out
  have HZ := Lib.hid hZ
  have M := Lib.hid (hM CZ)
  clear hM hZ HST1
  obtain ⟨q, hq⟩ : ∃ q, q = w1.heap.size := ⟨_, rfl⟩
  rw [← hq] at M ⊢
  clear hq
  generalize w1.alloc (.cells CZ 80) = w2 at *
  rw [HCZ.out] at M
  clear HCZ HCS HCO
  have HQL := Lib.hid (show w.heap.size + 1 + 1 < q from M.out.q3)
  obtain ⟨ra, rn, rc, h5, hin, hob⟩ := M.out.rd
  have H5 := Lib.hid h5
  have HIN := Lib.hid hin
  have HOB := Lib.hid hob
  clear h5 hin hob
  go_upto_region 3 with (first
    | (refine wpList_load_row rfl 152 (.tmp 1) rfl w.heap.size rfl 152 _ (0, 0) _ H5.out Tryz.underlying152 rfl (by kernel_rfl) ?_)
    | (go_at_call 123; (with_reducible refine (HC1.out _ w2 HIN.out).mono ?_); rintro e wc2 ⟨vx, rfl, hx, ho, hb⟩; obtain ⟨ax, cx, rfl, -⟩ := id hx; have HX := Lib.hid hx; have HO := Lib.hid (ho.trans HOB.out); replace M := Lib.hid (M.out.call hb); obtain ⟨_, _, _, h5, -⟩ := M.out.rd; replace H5 := Lib.hid h5; clear hx ho h5; clear hb)
    | (refine wpList_store_row rfl 152 (.tmp 1) (.tmp 12) rfl w.heap.size (rdC (.slice ax s1.1.length cx) (numE s1.2)) rfl rfl 152 _ H5.out (by kernel_rfl) (by rfl) (rd_one _ _ _ _) ?_; go_loud (clear H5; replace M := Lib.hid (M.out.read (s' := s1) HX.out HO.out HEs1.out); generalize wc2.setRow w.heap.size (rdC (.slice ax s1.1.length cx) (numE s1.2)) = wb2 at *))
    | (refine wpList_store_mid rfl 74 (.tmp 14) (.tmp 13) rfl q 0 HC rfl rfl (by rw [HHS.out]; exact bkD_t0 (hdD_size _ _ _ _ _ _ _ _ _) (cmD_size _ _ _ _) M.out.at_) (by rw [HHS.out]; kernel_rfl) HHO.out ?_))
  replace M := Lib.hid (M.out.put (only_cells11 q HC.toList 0 wb2) (bkD_s0 (hdD_size _ _ _ _ _ _ _ _ _) (cmD_size _ _ _ _) HHS.out M.out.at_))
  generalize wb2.setCells q 0 HC.toList = w3 at *
  clear HX HO HIN HOB
  obtain ⟨ra, rn, rc, h5, hin, hob⟩ := M.out.rd
  have H5 := Lib.hid h5
  have HIN := Lib.hid hin
  have HOB := Lib.hid hob
  clear h5 hin hob
  go_upto_region 4 with (first
    | (refine wpList_load_row rfl 152 (.tmp 1) rfl w.heap.size rfl 152 _ (0, 0) _ H5.out Tryz.underlying152 rfl (by kernel_rfl) ?_)
    | (go_at_call 155; (with_reducible refine (HC2.out _ w3 HIN.out).mono ?_); rintro e wc3 ⟨vx, rfl, hx, ho, hb⟩; obtain ⟨ax, cx, rfl, -⟩ := id hx; have HX := Lib.hid hx; have HO := Lib.hid (ho.trans HOB.out); replace M := Lib.hid (M.out.call hb); obtain ⟨_, _, _, h5, -⟩ := M.out.rd; replace H5 := Lib.hid h5; clear hx ho h5; clear hb)
    | (refine wpList_store_row rfl 152 (.tmp 1) (.tmp 18) rfl w.heap.size (rdC (.slice ax s2.1.length cx) (numE s2.2)) rfl rfl 152 _ H5.out (by kernel_rfl) (by rfl) (rd_one _ _ _ _) ?_; go_loud (clear H5; replace M := Lib.hid (M.out.read (s' := s2) HX.out HO.out HEs2.out); generalize wc3.setRow w.heap.size (rdC (.slice ax s2.1.length cx) (numE s2.2)) = wb3 at *)))
  clear HX HO HIN HOB
  obtain ⟨C0, hC0⟩ : ∃ x, x = (cmD 0 0 (fun _ => 0) (.slice none 0 0)) := ⟨_, rfl⟩
  have HC0S := Lib.hid (show C0.size = 35 from by rw [hC0]; exact cmD_size _ _ _ _)
  rw [← hC0] at M
  clear hC0
  have HM0 := Lib.hid (show RbR w q Z (Value.slice va s.1.length vc).ownBlock s2 HC C0 wb3.heap.size 0 wb3 from ⟨.slice none 0 0, [], rfl, M.out, ⟨World.ownsRow_nil _ _ _ _, fun t ht => by cases ht⟩, bkT_lt M.out.at_, Nat.le_refl _⟩)
  obtain ⟨B, hB⟩ : ∃ B, B = wb3.heap.size := ⟨_, rfl⟩
  rw [← hB] at HM0
  clear hB M
  go_wp2_with (fail)
  go_loopw [6] (fun x wr => ∃ k : Nat, k ≤ n ∧ x = .int .i64 (k : Int) ∧ Hid (RbR w q Z (Value.slice va s.1.length vc).ownBlock s2 HC C0 B k wr)) (fun x _ => n - (intOf x).toNat)
  case atStart => exact ⟨0, Nat.zero_le _, rfl, HM0⟩
  case round =>
    clear HM0
    obtain ⟨k, hkn, rfl, HM⟩ := hrel
    obtain ⟨vv, svs, hsl, hm, hlm, hqb, hbs⟩ := HM.out
    have M := Lib.hid hm
    have HL := Lib.hid hlm
    have HQB := Lib.hid hqb
    have HBS := Lib.hid hbs
    have HSL := Lib.hid hsl
    obtain ⟨la, lc, hvv⟩ := own_slice11 hlm.row
    rw [txs_len, hsl] at hvv
    subst hvv
    have HLT := Lib.hid (show ∀ j, (Value.slice la k lc).ownBlock = some j → B ≤ j ∧ j < wr.heap.size from fun j hj => hlm.row.lt j hj)
    have HBS0 := Lib.hid hbs
    clear HM hm hlm hqb hbs hsl
    by_cases hlt : k < n
    · have hltI : (k : Int) < (n : Int) := by omega
      obtain ⟨s5, hs5⟩ : ∃ x, x = txN k s2 := ⟨_, rfl⟩
      have HS5 := Lib.hid hs5
      obtain ⟨s6, hs6⟩ : ∃ x, x = (partS s5 65536).2 := ⟨_, rfl⟩
      have HS6 := Lib.hid hs6
      rw [← hs5] at M
      obtain ⟨xb, hxb⟩ : ∃ x, x = (partS s5 65536).1 := ⟨_, rfl⟩
      have HXB := Lib.hid hxb
      have HCV := Lib.hid (rp_let (most := 65536) (m := 65536) (by omega) rfl (show partS s5 65536 = (xb, s6) from by rw [hxb, hs6]) (by rw [hs5]; exact txN_k11 HOK.out k))
      clear hxb
      have HEs6 := Lib.hid (show s5.1 = [] → s6.1 = [] from fun h => by rw [hs6]; exact partE11 h)
      clear hs5 hs6

      obtain ⟨ra, rn, rc, h5, hin, hob⟩ := M.out.rd
      have H5 := Lib.hid h5
      have HIN := Lib.hid hin
      have HOB := Lib.hid hob
      clear h5 hin hob
      have HQI := Lib.hid (show q < wr.heap.size from bkT_lt M.out.at_)
      go_upto_region 9 with (first
        | (refine wpList_load_row rfl 152 (.tmp 1) rfl w.heap.size rfl 152 _ (0, 0) _ H5.out Tryz.underlying152 rfl (by kernel_rfl) ?_)
        | (go_at_call 156; (with_reducible refine (HCV.out _ wr HIN.out).mono ?_); rintro e wc10 ⟨vx, vb, rfl, hx, hvb, ho, hnb, hb⟩; obtain ⟨ax, cx, rfl, -⟩ := id hx; have HX := Lib.hid hx; have HO := Lib.hid (ho.trans HOB.out); replace M := Lib.hid (M.out.call hb); obtain ⟨_, _, _, h5, -⟩ := M.out.rd; replace H5 := Lib.hid h5; clear hx ho h5; have HVB := Lib.hid hvb; have HNB := Lib.hid (show ∀ j, vb.ownBlock = some j → wr.heap.size ≤ j ∧ j < wc10.heap.size from hnb); obtain ⟨ba, bc, rfl, -⟩ := id hvb; clear hvb hnb; replace HL := Lib.hid (HL.out.call hb); replace HBS := Lib.hid (Nat.le_trans HBS.out hb.size); clear hb)
        | (refine wpList_store_row rfl 152 (.tmp 1) (.tmp 28) rfl w.heap.size (rdC (.slice ax s6.1.length cx) (numE s6.2)) rfl rfl 152 _ H5.out (by kernel_rfl) (by rfl) (rd_one _ _ _ _) ?_; go_loud (clear H5; replace HVB := Lib.hid (M.out.row (rdC (.slice ax s6.1.length cx) (numE s6.2)) HVB.out); replace HNB := Lib.hid (show ∀ j, (Value.slice ba xb.length bc).ownBlock = some j → wr.heap.size ≤ j ∧ j < (wc10.setRow w.heap.size (rdC (.slice ax s6.1.length cx) (numE s6.2))).heap.size from fun j hj => ⟨(HNB.out j hj).1, Nat.lt_of_lt_of_le (HNB.out j hj).2 (only_setRow11 wc10 w.heap.size (rdC (.slice ax s6.1.length cx) (numE s6.2))).size⟩); replace HL := Lib.hid (HL.out.only (only_setRow11 wc10 w.heap.size (rdC (.slice ax s6.1.length cx) (numE s6.2))) (by have := M.out.q3; have := HQB.out; omega)); replace HBS := Lib.hid (Nat.le_trans HBS.out (only_setRow11 wc10 w.heap.size (rdC (.slice ax s6.1.length cx) (numE s6.2))).size); replace M := Lib.hid (M.out.read (s' := s6) HX.out HO.out HEs6.out); generalize wc10.setRow w.heap.size (rdC (.slice ax s6.1.length cx) (numE s6.2)) = wb10 at *)))
      clear HX HO HIN HOB
      obtain ⟨T, hT⟩ : ∃ t : Tb, t = ⟨.slice ba xb.length bc, xb⟩ := ⟨_, rfl⟩
      have HT := Lib.hid hT
      have HTX := Lib.hid (show ∃ a n c, T.bv = .slice a n c from by rw [hT]; exact ⟨_, _, _, rfl⟩)
      have HTV := Lib.hid (show Value.slice ba xb.length bc = T.bv from by rw [hT])
      have HTB := Lib.hid (show BytesIn wb10 T.bv T.bs from by rw [hT]; exact HVB.out)
      have HNV2 := Lib.hid (show ∀ j, T.bv.ownBlock = some j → B ≤ j ∧ j < wb10.heap.size ∧ (Value.slice la k lc).ownBlock ≠ some j from fun j hj => by
        rw [hT] at hj
        have h1 := HNB.out j hj
        exact ⟨by have := HBS0.out; omega, h1.2, fun e => by have := (HLT.out _ e); omega⟩)
      have c34 : wb10.cell? ⟨q, 164, none⟩ = some (.slice la k lc) := bkD_c1 HHS.out HC0S.out M.out.at_
      clear hT
      go_upto_region 6 with (first
        | (refine wpList_oneT rfl (.tmp 32) rfl (some 33) rfl T HTX.out (Value.slice ba xb.length bc) HTV.out rfl ?_; have HQ9 := Lib.hid (heap_alloc_new wb10 (.cells (tbTL T).toArray 34)); have hb9 := below_alloc wb10 (.cells (tbTL T).toArray 34); replace M := Lib.hid (M.out.call hb9); replace HL := Lib.hid (HL.out.call hb9); replace HTB := Lib.hid (HTB.out.below hb9); replace HBS := Lib.hid (Nat.le_trans HBS.out hb9.size); replace HNV2 := Lib.hid (show ∀ j, T.bv.ownBlock = some j → B ≤ j ∧ j < (wb10.alloc (.cells (tbTL T).toArray 34)).heap.size ∧ (Value.slice la k lc).ownBlock ≠ some j from fun j hj => ⟨(HNV2.out j hj).1, Nat.lt_of_lt_of_le (HNV2.out j hj).2.1 hb9.size, (HNV2.out j hj).2.2⟩); clear hb9; obtain ⟨p9, hp9⟩ : ∃ p, p = wb10.heap.size := ⟨_, rfl⟩; rw [← hp9] at HQ9 ⊢; clear hp9; generalize wb10.alloc (.cells (tbTL T).toArray 34) = w12 at *)
        | (at_builtin; refine wpList_append_row11 (C := tbTL) tbTL_len 75 34 tbZ11 Tryz.underlying75 infoT11 (by kernel_rfl) (by omega) rfl (.tmp 31) (.tmp 33) rfl rfl B (.slice la k lc) (txs s2 svs) rfl HL.out.row p9 T (tbTL_one HTX.out) rfl HQ9.out (by rw [txs_len, HSL.out]; omega) (by rw [txs_len, HSL.out]; omega) HBS.out ?_; intro v4 w4 ho4 hg4 hw4; replace HL := Lib.hid (HL.out.grow (x := T) HTB.out HNV2.out ho4 hg4 hw4); replace M := Lib.hid (M.out.grow hg4 (fun j hj => by have := HLT.out _ hj; have := HQB.out; omega)); replace HBS := Lib.hid (Nat.le_trans HBS.out hg4.size); obtain ⟨xa, xc, hxe⟩ := own_slice11 ho4; clear ho4 hg4 hw4; rw [show (txs s2 svs ++ [T]).length = k + 1 from by rw [List.length_append, txs_len, HSL.out]; rfl] at hxe; subst hxe; have k0 : w4.cell? ⟨q, 164, none⟩ = some (.slice la k lc) := bkD_c1 HHS.out HC0S.out M.out.at_; have k1 : w4.frozen? ⟨q, 164, none⟩ = false := frozen_of_row _ _ _ _ _ M.out.at_))
      clear k0 k1 c34
      have ho5 := Only.setCell w4 ⟨q, 164, none⟩ (.slice xa (k + 1) xc)
      replace M := Lib.hid (M.out.put ho5 (bkD_s1 HHS.out HC0S.out M.out.at_))
      replace HL := Lib.hid (HL.out.only ho5 (by show q < B; exact HQB.out))
      replace HBS := Lib.hid (Nat.le_trans HBS.out ho5.size)
      clear ho5
      generalize w4.setCell ⟨q, 164, none⟩ (.slice xa (k + 1) xc) = w5 at *
      go_wp2_with (fail)
      go_roundw
      case rel => exact ⟨k + 1, by omega, by go_num, Lib.hid ⟨_, svs ++ [.slice ba xb.length bc], by rw [List.length_append, HSL.out]; rfl, by have h := M.out; rw [HS6.out, HS5.out] at h; exact h, by have h := HL.out; rw [HT.out, HXB.out, HS5.out] at h; rw [txs_snoc, HSL.out]; rw [HXB.out, HS5.out]; exact h, HQB.out, HBS.out⟩⟩
      case measure => simp [intOf]; omega
    · obtain rfl : k = n := by omega
      rw [← HS7.out] at M
      go_upto_region 10 with (fail)
      have HWR := Lib.hid (show q < wr.heap.size from bkT_lt M.out.at_)
      obtain ⟨ra, rn, rc, h5, hin, hob⟩ := M.out.rd
      have H5 := Lib.hid h5
      have HIN := Lib.hid hin
      have HOB := Lib.hid hob
      clear h5 hin hob
      go_upto_region 11 with (first
        | (refine wpList_load_row rfl 152 (.tmp 1) rfl w.heap.size rfl 152 _ (0, 0) _ H5.out Tryz.underlying152 rfl (by kernel_rfl) ?_)
        | (go_at_call 120; (with_reducible refine (HC7.out _ wr HIN.out).mono ?_); rintro e wc20 ⟨vx, cv, cvs, hcl, rfl, hx, ho, hvl, hb⟩; obtain ⟨ax, cx, rfl, -⟩ := id hx; have HX := Lib.hid hx; have HO := Lib.hid (ho.trans HOB.out); replace M := Lib.hid (M.out.call hb); obtain ⟨_, _, _, h5, -⟩ := M.out.rd; replace H5 := Lib.hid h5; clear hx ho h5; have HVL := Lib.hid hvl; have HCL := Lib.hid hcl; clear hvl hcl; replace HL := Lib.hid (HL.out.call hb); replace HBS := Lib.hid (Nat.le_trans HBS.out hb.size); obtain ⟨ca, cc, hcv, -, -⟩ := HVL.out.rows.len; obtain ⟨CC, hCC⟩ : ∃ x, x = cmC (cmV s7) cv := ⟨_, rfl⟩; have HCC := Lib.hid hCC; have HCCS := Lib.hid ((congrArg Array.size hCC).trans (cmC_size _ _)); have HCCO := Lib.hid (show CC.all (·.oneCell') = true from by rw [hCC, hcv]; exact cmC_one11 _ _ _ _); rw [← hCC]; clear hCC hcv; clear hb)
        | (refine wpList_store_row rfl 152 (.tmp 1) (.tmp 39) rfl w.heap.size (rdC (.slice ax s8.1.length cx) (numE s8.2)) rfl rfl 152 _ H5.out (by kernel_rfl) (by rfl) (rd_one _ _ _ _) ?_; go_loud (clear H5; replace HL := Lib.hid (HL.out.only (only_setRow11 wc20 w.heap.size (rdC (.slice ax s8.1.length cx) (numE s8.2))) (by have := M.out.q3; have := HQB.out; omega)); replace HVL := Lib.hid (HVL.out.only (only_setRow11 wc20 w.heap.size (rdC (.slice ax s8.1.length cx) (numE s8.2))) (by have := HWR.out; have := M.out.q3; omega)); replace HBS := Lib.hid (Nat.le_trans HBS.out (only_setRow11 wc20 w.heap.size (rdC (.slice ax s8.1.length cx) (numE s8.2))).size); replace M := Lib.hid (M.out.read (s' := s8) HX.out HO.out HEs8.out); generalize wc20.setRow w.heap.size (rdC (.slice ax s8.1.length cx) (numE s8.2)) = wb20 at *))
        | (refine wpList_store_mid rfl 78 (.tmp 41) (.tmp 40) rfl q 165 CC rfl rfl (by rw [HCCS.out]; exact bkD_t2 HHS.out HC0S.out M.out.at_) (by rw [HCCS.out]; kernel_rfl) HCCO.out ?_))
      replace HL := Lib.hid (HL.out.only (only_cells11 q CC.toList 165 wb20) HQB.out)
      replace HVL := Lib.hid (HVL.out.only (only_cells11 q CC.toList 165 wb20) HWR.out)
      replace HBS := Lib.hid (Nat.le_trans HBS.out (only_cells11 q CC.toList 165 wb20).size)
      replace M := Lib.hid (M.out.put (only_cells11 q CC.toList 165 wb20) (bkD_s2 HHS.out HC0S.out HCCS.out M.out.at_))
      generalize wb20.setCells q 165 CC.toList = w21 at *
      clear HX HO HIN HOB
      obtain ⟨CV, hCV⟩ : ∃ x, x = bkD HC (.slice la k lc) CC := ⟨_, rfl⟩
      have HCV := Lib.hid hCV
      have HVS := Lib.hid ((congrArg Array.size hCV).trans (bkD_size HHS.out HCCS.out))
      have HVO := Lib.hid (show CV.all (·.oneCell') = true from by rw [hCV]; exact bkD_one HHO.out HCCO.out)
      rw [← hCV] at M
      clear hCV
      obtain ⟨ra, rn, rc, h5, hin, hob⟩ := M.out.rd
      have HOB := Lib.hid hob
      have H5 := Lib.hid h5
      have HIN := Lib.hid hin
      clear h5 hin hob
      refine wp_region_T (fun W => W.heap[w.heap.size]? = some (.cells (rdC (.slice ra rn rc) (numE s8.2)) 152 (0, 0)) ∧ W.heap[q]? = some (.cells CV 80 (0, 0))) [0, 1, 2, 3] (by kernel_rfl) ?_
      have hbd : Below w21.heap.size w21 w21.drew := (Below.refl _ _).drew
      replace M := Lib.hid (M.out.call hbd)
      replace H5 := Lib.hid ((hbd.block _ (bkT_lt H5.out)).trans H5.out)
      replace HIN := Lib.hid (HIN.out.below hbd)
      replace HL := Lib.hid (HL.out.call hbd)
      replace HVL := Lib.hid (HVL.out.below hbd)
      replace HBS := Lib.hid (Nat.le_trans HBS.out hbd.size)
      clear hbd
      generalize w21.drew = wd at *
      have HS := Lib.hid (show wd.heap[w.heap.size]? = some (.cells (rdC (.slice ra rn rc) (numE s8.2)) 152 (0, 0)) ∧ wd.heap[q]? = some (.cells CV 80 (0, 0)) from ⟨H5.out, M.out.at_⟩)
      have HF := Lib.hid (M.out.fin H5.out)
      refine anyT_take [] (i := 0) (v := .agg (rdC (.slice ra rn rc) (numE s8.2))) rfl (by kernel_rfl) (by kernel_rfl) (by kernel_rfl) (fun _ _ _ h => h) (by kernel_rfl) (rdagg_yields (by rfl) 152 (.tmp 1) rfl w.heap.size rfl _ _ (fun _ h => h.1) Tryz.underlying152 rfl (by kernel_rfl)) HS.out ?_
      try simp only [List.getElem_toArray, List.getElem_cons_succ, List.getElem_cons_zero, Act.put, List.setIfInBounds_toArray, List.set_cons_zero, List.set_cons_succ]
      refine anyT_take [] (i := 1) (v := .agg CV) rfl (by kernel_rfl) (by kernel_rfl) (by kernel_rfl) (fun _ _ _ h => h) (by kernel_rfl) (rdagg_yields (by rfl) 80 (.tmp 4) rfl q rfl _ _ (fun _ h => h.2) Tryz.underlying80 rfl (by rw [HVS.out]; kernel_rfl)) HS.out ?_
      try simp only [List.getElem_toArray, List.getElem_cons_succ, List.getElem_cons_zero, Act.put, List.setIfInBounds_toArray, List.set_cons_zero, List.set_cons_succ]
      refine anyT_one (i := 2) (by kernel_rfl) rfl (fun K hK => ?_)
      rw [if_pos (by rfl)]
      try simp only [List.getElem_toArray, List.getElem_cons_succ, List.getElem_cons_zero]
      (refine wp_store_row 152 (.tmp 2) (.tmp 42) rfl (w.heap.size + 1) (rdC (.slice ra rn rc) (numE s8.2)) rfl rfl 152 _ HF.out.r0 (by kernel_rfl) (by rfl) (rd_one _ _ _ _) ?_)
      refine hK _ _ (fun _ => HF.out.s1) ?_
      clear hK K
      try simp only [List.getElem_toArray, List.getElem_cons_succ, List.getElem_cons_zero, Act.put, List.setIfInBounds_toArray, List.set_cons_zero, List.set_cons_succ]
      refine anyT_one (i := 3) (by kernel_rfl) rfl (fun K hK => ?_)
      rw [if_pos (by rfl)]
      try simp only [List.getElem_toArray, List.getElem_cons_succ, List.getElem_cons_zero]
      (refine wp_store_row 80 (.tmp 3) (.tmp 43) rfl (w.heap.size + 1 + 1) CV rfl rfl 80 _ HF.out.r1 (by rw [HVS.out]; kernel_rfl) (by rw [HVS.out, HZ.out]) HVO.out ?_)
      refine hK _ _ (fun _ => HF.out.s2) ?_
      clear hK K
      try simp only [List.getElem_toArray, List.getElem_cons_succ, List.getElem_cons_zero, Act.put, List.setIfInBounds_toArray, List.set_cons_zero, List.set_cons_succ]
      refine anyT_done (by kernel_rfl) ?_ _
      have HE := Lib.hid HF.out.end_
      have HRA := Lib.hid HF.out.a
      have HRB := Lib.hid HF.out.b
      generalize (World.setRow _ (w.heap.size + 1 + 1) CV) = wz at *
      go_wp2_with (fail)
      refine bodyPost_ret (results_cell2_row rfl _ _ (w.heap.size + 1) (w.heap.size + 1 + 1) 152 80 _ _ (0, 0) (0, 0) _ _ rfl HRA.out Tryz.underlying152 rfl (by kernel_rfl) rfl HRB.out Tryz.underlying80 rfl (by rw [HVS.out]; kernel_rfl)) rfl ?_
      have hQL := HQL.out
      have hend := HE.out
      have hWR := HWR.out
      have hqb := HQB.out
      have hll := HL.out.keep (w' := wz) (fun j hB hj => hend.2.2 j (by omega) (by omega)) (by rw [hend.2.1]; exact Nat.le_refl _)
      have hvl := HVL.out.keep11 (w' := wz) (fun j hB hj => hend.2.2 j (by omega) (by omega)) (by rw [hend.2.1]; exact Nat.le_refl _)
      rw [HBT.out, HCT.out, ← HS8.out, ← HHC.out]
      exact ⟨_, .slice la k lc, svs, cv, cvs, HSL.out, HCL.out, by rw [HCV.out, HCC.out], bytes_blk11 HIN.out (fun hn j hj => hend.2.2 j (by have := M.out.obN hn j (HOB.out ▸ hj); omega) (by have := M.out.obN hn j (HOB.out ▸ hj); omega)), HOB.out, ⟨rows_of_own tbTL_len hll.row (by rw [txs_len, HSL.out]; unfold maxLen; omega), fun j hj => by have := (hll.row.lt j hj).1; omega, fun t ht => ⟨(hll.el t ht).1, fun j hj => by have := ((hll.el t ht).2 j hj).1; omega⟩⟩, hvl.mono (by omega), hend.1⟩
end Go.Proofs.YtanekacpalpcbaaGreatDoor
namespace Go.Proofs.YtanekacpalpcbaaGreatDoor
set_option linter.unusedVariables false
set_option linter.unusedSimpArgs false
open Go.RowKit
set_option maxRecDepth 100000
theorem rdone2_any (v : Value) (ys : List Int) (e : Option Nat) (he : e ≠ some 0) (w : World) (hy : BytesIn w v ys) (hl : ys.length ≤ 140737488355328) : Calls Tryz.prog 84 #[.agg (rdC v (numE e))] w fun r w' => r = .returned (.int .i64 (numE (doneE (ys, e)))) ∧ Below w.heap.size w w' := by
  obtain ⟨a, c, rfl, -⟩ := id hy
  have HB := Lib.hid (below_alloc w (.cells (rdC (.slice a ys.length c) (numE e)) 152))
  obtain ⟨c0, c1, -⟩ := rd_cells (heap_alloc_new w (.cells (rdC (.slice a ys.length c) (numE e)) 152))
  cases e with
  | some x =>
    have hx : x ≠ 0 := fun h => he (by rw [h])
    have hne : ((x : Int) == 0) = false := by simp; omega
    rw [show numE (some x) = (x : Int) from rfl] at *
    clear hx he hy
    go_enter Tryz.func84, Tryz.ntmps84
    go_wp2_with (fail)
    go_ret
    exact ⟨rfl, HB.out⟩
  | none =>
    rw [show numE none = 0 from rfl] at *
    by_cases h : 0 < ys.length
    · have q1 : decide ((0 : Int) < (ys.length : Int)) = true := by simp; omega
      have q2 : decide (0 < ys.length) = true := by simpa using h
      have HD := Lib.hid (show doneE (ys, none) = some 3 by unfold doneE; simp only; rw [if_pos h])
      clear h he hy
      go_enter Tryz.func84, Tryz.ntmps84
      go_wp2_with (fail)
      go_ret
      rw [HD.out]
      exact ⟨rfl, HB.out⟩
    · have q1 : decide ((0 : Int) < (ys.length : Int)) = false := decide_eq_false (by omega)
      have q2 : decide (0 < ys.length) = false := decide_eq_false h
      have HD := Lib.hid (show doneE (ys, none) = none by unfold doneE; simp only; rw [if_neg h])
      clear h he hy
      go_enter Tryz.func84, Tryz.ntmps84
      go_wp2_with (fail)
      go_ret
      rw [HD.out]
      exact ⟨rfl, HB.out⟩
/-- a small depth -/
def cutE5 (E : Int) : Int := if 4 < E ∧ E ≤ 10 then E % 5 else E
theorem cutE5_same (D E : Int) : kOk D (cutE5 E) ↔ kOk D E := by
  unfold cutE5
  by_cases h : 4 < E ∧ E ≤ 10
  · rw [if_pos h]
    unfold kOk; omega
  · rw [if_neg h]
theorem par_one (D E : Int) : (parC D E).all (·.oneCell') = true := by simp [parC, Value.oneCell']
end Go.Proofs.YtanekacpalpcbaaGreatDoor

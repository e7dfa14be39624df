/- Part 29 of the proof. -/
import Derived.Test.YtanekacpalpcbaaGreatDoorRd28
namespace Go.Proofs.YtanekacpalpcbaaGreatDoor
set_option linter.unusedVariables false
set_option linter.unusedSimpArgs false
open Go.RowKit
set_option maxRecDepth 100000
set_option linter.unusedSimpArgs false
set_option linter.unusedVariables false
/-- a list of one's own whose elements bear slices: all from block B on -/
structure LsM {α : Type} (n : Nat) (C : α → List Value) (E : TypeId) (bv : α → Value) (bs : α → List Int) (B : Nat) (vv : Value) (l : List α) (w : World) : Prop where
  row : w.ownsRow B E n vv l.length (l.flatMap C)
  el : ∀ t ∈ l, BytesIn w (bv t) (bs t) ∧ ∀ j, (bv t).ownBlock = some j → B ≤ j ∧ j < w.heap.size ∧ vv.ownBlock ≠ some j
section
variable {α : Type} {n : Nat} {C : α → List Value} {E : TypeId} {bv : α → Value} {bs : α → List Int} {B : Nat} {vv v' : Value} {l : List α} {w w' : World} {x : α}
theorem LsM.keep (h : LsM n C E bv bs B vv l w) (hk : ∀ j, B ≤ j → j < w.heap.size → w'.heap[j]? = w.heap[j]?) (hs : w.heap.size ≤ w'.heap.size) : LsM n C E bv bs B vv l w' :=
  ⟨own_stay11 h.row fun j hj => hk j (h.row.lt j hj).1 (h.row.lt j hj).2, fun t ht => ⟨bytes_blk11 (h.el t ht).1 fun _ j hj => hk j ((h.el t ht).2 j hj).1 ((h.el t ht).2 j hj).2.1, fun j hj => ⟨((h.el t ht).2 j hj).1, Nat.lt_of_lt_of_le ((h.el t ht).2 j hj).2.1 hs, ((h.el t ht).2 j hj).2.2⟩⟩⟩
theorem LsM.call (h : LsM n C E bv bs B vv l w) (hb : Below w.heap.size w w') : LsM n C E bv bs B vv l w' := h.keep (fun j _ hj => hb.block j hj) hb.size
theorem LsM.only (h : LsM n C E bv bs B vv l w) {g : Nat} (ho : Only g w w') (hg : g < B) : LsM n C E bv bs B vv l w' := h.keep (fun j hB hj => ho.block j hj (by omega)) ho.size
theorem LsM.side (h : LsM n C E bv bs B vv l w) {g : Nat} (ho : Only g w w') (hv : vv.ownBlock ≠ some g) (he : ∀ t ∈ l, (bv t).ownBlock ≠ some g) : LsM n C E bv bs B vv l w' :=
  ⟨own_stay11 h.row fun j hj => ho.block j (h.row.lt j hj).2 (fun e => hv (e ▸ hj)), fun t ht => ⟨bytes_blk11 (h.el t ht).1 fun _ j hj => ho.block j ((h.el t ht).2 j hj).2.1 (fun e => he t ht (e ▸ hj)), fun j hj => ⟨((h.el t ht).2 j hj).1, Nat.lt_of_lt_of_le ((h.el t ht).2 j hj).2.1 ho.size, ((h.el t ht).2 j hj).2.2⟩⟩⟩
theorem LsM.grow (h : LsM n C E bv bs B vv l w) (hx : BytesIn w (bv x) (bs x)) (hn : ∀ j, (bv x).ownBlock = some j → B ≤ j ∧ j < w.heap.size ∧ vv.ownBlock ≠ some j) (ho : w'.ownsRow B E n v' (l ++ [x]).length ((l ++ [x]).flatMap C)) (hg : w.grownBy w' vv.ownBlock) (hv : v'.ownBlock = vv.ownBlock ∨ v'.ownBlock = some w.heap.size) : LsM n C E bv bs B v' (l ++ [x]) w' := by
  have hsz := hg.size
  have one : ∀ t, BytesIn w (bv t) (bs t) → (∀ j, (bv t).ownBlock = some j → B ≤ j ∧ j < w.heap.size ∧ vv.ownBlock ≠ some j) → BytesIn w' (bv t) (bs t) ∧ ∀ j, (bv t).ownBlock = some j → B ≤ j ∧ j < w'.heap.size ∧ v'.ownBlock ≠ some j := fun t h1 h2 =>
    ⟨bytes_blk11 h1 fun _ j hj => hg.block j (h2 j hj).2.1 (fun e => (h2 j hj).2.2 e.symm), fun j hj => ⟨(h2 j hj).1, by have := (h2 j hj).2.1; omega, fun e => by
      rcases hv with hv | hv
      · exact (h2 j hj).2.2 (hv ▸ e)
      · rw [hv] at e
        injection e with e
        have := (h2 j hj).2.1
        omega⟩⟩
  refine ⟨ho, fun t ht => ?_⟩
  rcases List.mem_append.1 ht with ht | ht
  · exact one t (h.el t ht).1 (h.el t ht).2
  · obtain rfl := List.mem_singleton.1 ht
    exact one t hx hn
end
def cmD (H R : Int) (BK : Nat → Int) (vv : Value) : Array Value := #[.int .i64 H] ++ (#[.int .i64 R] ++ (rowOf .u8 32 BK ++ #[vv]))
theorem cmD_size (H R : Int) (BK : Nat → Int) (vv : Value) : (cmD H R BK vv).size = 35 := by simp [cmD, rowOf_size]
theorem cmC_D (c : Cm) (vv : Value) : cmC c vv = cmD c.height c.round c.blk vv := by apply Array.toList_inj.1; simp [cmC, cmD]
theorem cmD_one (H R : Int) (BK : Nat → Int) (a : Option Addr) (n c : Nat) : (cmD H R BK (.slice a n c)).all (·.oneCell') = true := by
  unfold cmD
  simp only [Array.all_append, rowOf_one]
  simp [Value.oneCell']
theorem cmD_c0 {H R : Int} {BK : Nat → Int} {vv : Value} {w : World} {g : Nat} {T : TypeId} (h : w.heap[g]? = some (.cells (cmD H R BK vv) T (0, 0))) : w.cell? ⟨g, 0, none⟩ = some (.int .i64 H) := cellT_app (x := .int .i64 H) (A := #[]) (C := #[.int .i64 R] ++ (rowOf .u8 32 BK ++ (#[vv]))) h (by apply Array.toList_inj.1; simp [cmD, rowOf_size]) (by simp [cmD, rowOf_size])
theorem cmD_s0 {H R : Int} {BK : Nat → Int} {vv : Value} {H' : Int} {w : World} {g : Nat} {T : TypeId} (h : w.heap[g]? = some (.cells (cmD H R BK vv) T (0, 0))) : (w.setCell ⟨g, 0, none⟩ (.int .i64 H')).heap[g]? = some (.cells (cmD H' R BK vv) T (0, 0)) := setT_one (x := .int .i64 H) (y := .int .i64 H') (A := #[]) (C := #[.int .i64 R] ++ (rowOf .u8 32 BK ++ (#[vv]))) h (by apply Array.toList_inj.1; simp [cmD, rowOf_size]) (by apply Array.toList_inj.1; simp [cmD, rowOf_size]) (by simp [cmD, rowOf_size])
theorem cmD_c1 {H R : Int} {BK : Nat → Int} {vv : Value} {w : World} {g : Nat} {T : TypeId} (h : w.heap[g]? = some (.cells (cmD H R BK vv) T (0, 0))) : w.cell? ⟨g, 1, none⟩ = some (.int .i64 R) := cellT_app (x := .int .i64 R) (A := #[.int .i64 H]) (C := rowOf .u8 32 BK ++ (#[vv])) h (by apply Array.toList_inj.1; simp [cmD, rowOf_size]) (by simp [cmD, rowOf_size])
theorem cmD_s1 {H R : Int} {BK : Nat → Int} {vv : Value} {R' : Int} {w : World} {g : Nat} {T : TypeId} (h : w.heap[g]? = some (.cells (cmD H R BK vv) T (0, 0))) : (w.setCell ⟨g, 1, none⟩ (.int .i64 R')).heap[g]? = some (.cells (cmD H R' BK vv) T (0, 0)) := setT_one (x := .int .i64 R) (y := .int .i64 R') (A := #[.int .i64 H]) (C := rowOf .u8 32 BK ++ (#[vv])) h (by apply Array.toList_inj.1; simp [cmD, rowOf_size]) (by apply Array.toList_inj.1; simp [cmD, rowOf_size]) (by simp [cmD, rowOf_size])
theorem cmD_s2 {H R : Int} {BK : Nat → Int} {vv : Value} {BK' : Nat → Int} {w : World} {g : Nat} {T : TypeId} (h : w.heap[g]? = some (.cells (cmD H R BK vv) T (0, 0))) : (w.setCells g 2 (rowOf .u8 32 BK').toList).heap[g]? = some (.cells (cmD H R BK' vv) T (0, 0)) := setT_app (A := #[.int .i64 H] ++ #[.int .i64 R]) (B := rowOf .u8 32 BK) (C := #[vv]) h (by apply Array.toList_inj.1; simp [cmD, rowOf_size]) (by apply Array.toList_inj.1; simp [cmD, rowOf_size]) (by simp [cmD, rowOf_size]) (by simp [cmD, rowOf_size])
theorem cmD_t2 {H R : Int} {BK : Nat → Int} {vv : Value} {w : World} {g : Nat} {T : TypeId} (h : w.heap[g]? = some (.cells (cmD H R BK vv) T (0, 0))) : w.there g 2 32 := by
  have := thereT (A := #[.int .i64 H] ++ #[.int .i64 R]) (B := rowOf .u8 32 BK) (C := #[vv]) (n := 2) h (by apply Array.toList_inj.1; simp [cmD, rowOf_size]) (by simp [cmD, rowOf_size])
  have e : (rowOf .u8 32 BK).size = 32 := by simp [cmD, rowOf_size]
  rwa [e] at this
theorem cmD_c3 {H R : Int} {BK : Nat → Int} {vv : Value} {w : World} {g : Nat} {T : TypeId} (h : w.heap[g]? = some (.cells (cmD H R BK vv) T (0, 0))) : w.cell? ⟨g, 34, none⟩ = some (vv) := cellT_app (x := vv) (A := #[.int .i64 H] ++ #[.int .i64 R] ++ rowOf .u8 32 BK) (C := #[]) h (by apply Array.toList_inj.1; simp [cmD, rowOf_size]) (by simp [cmD, rowOf_size])
theorem cmD_s3 {H R : Int} {BK : Nat → Int} {vv : Value} {vv' : Value} {w : World} {g : Nat} {T : TypeId} (h : w.heap[g]? = some (.cells (cmD H R BK vv) T (0, 0))) : (w.setCell ⟨g, 34, none⟩ (vv')).heap[g]? = some (.cells (cmD H R BK vv') T (0, 0)) := setT_one (x := vv) (y := vv') (A := #[.int .i64 H] ++ #[.int .i64 R] ++ rowOf .u8 32 BK) (C := #[]) h (by apply Array.toList_inj.1; simp [cmD, rowOf_size]) (by apply Array.toList_inj.1; simp [cmD, rowOf_size]) (by simp [cmD, rowOf_size])
/-- in the loop of ReadCommit -/
def RcR (w : World) (q : Nat) (Z : Array Value) (ob : Option Nat) (s0 : RSt) (H R : Int) (BK : Nat → Int) (B k : Nat) (wr : World) : Prop :=
  ∃ vv svs, svs.length = k ∧ RrM w w.heap.size q 78 Z ob (vtN k s0) (cmD H R BK vv) wr ∧ LsM 37 voTL 93 Vo.sv Vo.sign B vv (vts s0 svs) wr ∧ q < B ∧ B ≤ wr.heap.size
theorem vtN_k11 {s : RSt} (h : okR11 s) : ∀ k, okR11 (vtN k s)
  | 0 => h
  | k + 1 => by
    show okR11 (vtR (vtN k s))
    unfold vtR vt5
    exact partS_k11 (intS_k11 (hashS_k11 (intS_k11 (intS_k11 (intS_k11 (vtN_k11 h k))))))
set_option maxHeartbeats 8000000 in
theorem rdcommit_any (v : Value) (s : RSt) (w : World) (hy : BytesIn w v s.1) (ok : okR11 s) :
    Calls Tryz.prog 120 #[.agg (rdC v (numE s.2))] w fun e w' => ∃ v' vv svs, svs.length = (countS (cmT s) 32).1 ∧ e = .returned (.tuple #[.agg (rdC v' (numE (cmR s).2)), .agg (cmC (cmV s) vv)]) ∧ BytesIn w' v' (cmR s).1 ∧ v'.ownBlock = v.ownBlock ∧ VL w' w.heap.size vv (vts (countS (cmT s) 32).2 svs) ∧ Below w.heap.size w w' := by
  obtain ⟨H, s1, e1⟩ : ∃ a b, intS s = (a, b) := ⟨_, _, rfl⟩
  have ok1 : okR11 s1 := by have := intS_k11 ok; rwa [e1] at this
  have HC1 := Lib.hid (ri_let e1 ok)
  have HEs1 := Lib.hid (show s.1 = [] → s1.1 = [] from fun h => by have := intE11 h; rwa [e1] at this)
  obtain ⟨R, s2, e2⟩ : ∃ a b, intS s1 = (a, b) := ⟨_, _, rfl⟩
  have ok2 : okR11 s2 := by have := intS_k11 ok1; rwa [e2] at this
  have HC2 := Lib.hid (ri_let e2 ok1)
  have HEs2 := Lib.hid (show s1.1 = [] → s2.1 = [] from fun h => by have := intE11 h; rwa [e2] at this)
  obtain ⟨BK, s3, e3⟩ : ∃ a b, hashS s2 = (a, b) := ⟨_, _, rfl⟩
  have ok3 : okR11 s3 := by have := hashS_k11 ok2; rwa [e3] at this
  have HC3 := Lib.hid (rh_let e3 ok2)
  have HEs3 := Lib.hid (show s2.1 = [] → s3.1 = [] from fun h => by have := hashE11 h; rwa [e3] at this)
  obtain ⟨n, s4, e4⟩ : ∃ a b, countS s3 32 = (a, b) := ⟨_, _, rfl⟩
  have ok4 : okR11 s4 := by have := countS_k11 (most := 32) ok3; rwa [e4] at this
  have HC4 := Lib.hid (rc_let (most := 32) (m := 32) (by omega) rfl e4 ok3)
  have HEs4 := Lib.hid (show s3.1 = [] → s4.1 = [] from fun h => by have := cntE11 (most := 32) h; rwa [e4] at this)
  have HCT := Lib.hid (show countS (cmT s) 32 = (n, s4) from by unfold cmT; rw [e1]; simp only; rw [e2]; simp only; rw [e3]; exact e4)
  have HR := Lib.hid (show cmR s = vtN n s4 from by unfold cmR; rw [HCT.out])
  have HV := Lib.hid (show ∀ vv, cmC (cmV s) vv = cmD H R BK vv from fun vv => by rw [cmC_D]; unfold cmV; simp only; rw [e1]; simp only; rw [e2]; simp only; rw [e3])
  have hn32 : n ≤ 32 := by have := cnt_le11 s3 32; rw [e4] at this; exact this
  have HOK := Lib.hid ok4
  have HNX := Lib.hid (fun k => vtNE11 (s := s4) (k := k))
  obtain ⟨VZ, hvz, hVZ⟩ : ∃ C, Tryz.prog.built 93 [] = some C ∧ C = voD 0 0 0 (fun _ => 0) 0 (.slice none 0 0) := ⟨_, by kernel_rfl, rfl⟩
  have HVZ := Lib.hid hvz
  have HVZS := Lib.hid ((congrArg Array.size hVZ).trans (voD_size _ _ _ _ _ _))
  have HVZO := Lib.hid (show VZ.all (·.oneCell') = true from by rw [hVZ]; exact voD_one _ _ _ _ _ _ _ _)
  clear e1 e2 e3 e4 ok1 ok2 ok3 ok4 hvz hVZ
  obtain ⟨va, vc, rfl, -⟩ := id hy
  obtain ⟨CZ, hbz, hCZ⟩ : ∃ C, Tryz.prog.built 78 [] = some C ∧ C = cmD 0 0 (fun _ => 0) (.slice none 0 0) := ⟨_, by kernel_rfl, rfl⟩
  have HCZ := Lib.hid hCZ
  have HBZ := Lib.hid hbz
  have HCS := Lib.hid ((congrArg Array.size hCZ).trans (cmD_size _ _ _ _))
  have HCO := Lib.hid (show CZ.all (·.oneCell') = true from by rw [hCZ]; exact cmD_one _ _ _ _ _ _)
  have HST := Lib.hid (fun (w1 : World) (Z : Array Value) (hZ : Z.size = 35) (hA : ((w.alloc (.cells (rdC (.slice va s.1.length vc) (numE s.2)) 152)).alloc (.cells (rdC (.slice none 0 0) 0) 152)).alloc (.cells Z 78) = w1) => rr_start hy hZ hA)
  clear hy ok hCZ hbz
  go_enter Tryz.func120, Tryz.ntmps120
  go_upto_region 1 with (fail)
  rw [← r2_zero]
  generalize hA : World.alloc (World.alloc (World.alloc w _) _) _ = w1
  have HST1 := Lib.hid (HST.out w1 _ (by kernel_rfl) hA)
  clear hA HST
  go_upto_region 2 with (first
    | (refine wpList_buildTo rfl 78 #[] rfl (some 8) rfl CZ (by refine Eq.trans (congrArg (Tryz.prog.built 78) ?_) HBZ.out; kernel_rfl) ?_)
    | (refine wpList_store_row rfl 78 (.tmp 4) (.tmp 8) rfl w1.heap.size CZ rfl rfl 78 _ (heap_alloc_new _ _) (by rw [HCS.out]; kernel_rfl) (by rw [HCS.out]; kernel_rfl) HCO.out ?_; rw [World.setRow_alloc_new]))
  clear HBZ
  obtain ⟨Z, hZ, hM⟩ := HST1.out
  have HZ := Lib.hid hZ
  have M := Lib.hid (hM CZ)
  clear hM hZ HST1
  obtain ⟨q, hq⟩ : ∃ q, q = w1.heap.size := ⟨_, rfl⟩
  rw [← hq] at M ⊢
  clear hq
  generalize w1.alloc (.cells CZ 78) = w2 at *
  rw [HCZ.out] at M
  clear HCZ HCS HCO
  have HQL := Lib.hid (show w.heap.size + 1 + 1 < q from M.out.q3)
  obtain ⟨ra, rn, rc, h5, hin, hob⟩ := M.out.rd
  have H5 := Lib.hid h5
  have HIN := Lib.hid hin
  have HOB := Lib.hid hob
  clear h5 hin hob
  go_upto_region 3 with (first
    | (refine wpList_load_row rfl 152 (.tmp 1) rfl w.heap.size rfl 152 _ (0, 0) _ H5.out Tryz.underlying152 rfl (by kernel_rfl) ?_)
    | (go_at_call 158; (with_reducible refine (HC1.out _ w2 HIN.out).mono ?_); rintro e wc2 ⟨vx, rfl, hx, ho, hb⟩; obtain ⟨ax, cx, rfl, -⟩ := id hx; have HX := Lib.hid hx; have HO := Lib.hid (ho.trans HOB.out); replace M := Lib.hid (M.out.call hb); obtain ⟨_, _, _, h5, -⟩ := M.out.rd; replace H5 := Lib.hid h5; clear hx ho h5; clear hb)
    | (refine wpList_store_row rfl 152 (.tmp 1) (.tmp 12) rfl w.heap.size (rdC (.slice ax s1.1.length cx) (numE s1.2)) rfl rfl 152 _ H5.out (by kernel_rfl) (by rfl) (rd_one _ _ _ _) ?_; go_loud (clear H5; replace M := Lib.hid (M.out.read (s' := s1) HX.out HO.out HEs1.out); generalize wc2.setRow w.heap.size (rdC (.slice ax s1.1.length cx) (numE s1.2)) = wb2 at *; have k0 : wb2.cell? ⟨q, 0, none⟩ = some (.int .i64 0) := cmD_c0 M.out.at_; have k1 : wb2.frozen? ⟨q, 0, none⟩ = false := frozen_of_row _ _ _ _ _ M.out.at_)))
  clear k0 k1
  replace M := Lib.hid (M.out.put (Only.setCell wb2 ⟨q, 0, none⟩ (.int .i64 H)) (cmD_s0 M.out.at_))
  generalize wb2.setCell ⟨q, 0, none⟩ (.int .i64 H) = w3 at *
  clear HX HO HIN HOB
  obtain ⟨ra, rn, rc, h5, hin, hob⟩ := M.out.rd
  have H5 := Lib.hid h5
  have HIN := Lib.hid hin
  have HOB := Lib.hid hob
  clear h5 hin hob
  go_upto_region 4 with (first
    | (refine wpList_load_row rfl 152 (.tmp 1) rfl w.heap.size rfl 152 _ (0, 0) _ H5.out Tryz.underlying152 rfl (by kernel_rfl) ?_)
    | (go_at_call 158; (with_reducible refine (HC2.out _ w3 HIN.out).mono ?_); rintro e wc3 ⟨vx, rfl, hx, ho, hb⟩; obtain ⟨ax, cx, rfl, -⟩ := id hx; have HX := Lib.hid hx; have HO := Lib.hid (ho.trans HOB.out); replace M := Lib.hid (M.out.call hb); obtain ⟨_, _, _, h5, -⟩ := M.out.rd; replace H5 := Lib.hid h5; clear hx ho h5; clear hb)
    | (refine wpList_store_row rfl 152 (.tmp 1) (.tmp 18) rfl w.heap.size (rdC (.slice ax s2.1.length cx) (numE s2.2)) rfl rfl 152 _ H5.out (by kernel_rfl) (by rfl) (rd_one _ _ _ _) ?_; go_loud (clear H5; replace M := Lib.hid (M.out.read (s' := s2) HX.out HO.out HEs2.out); generalize wc3.setRow w.heap.size (rdC (.slice ax s2.1.length cx) (numE s2.2)) = wb3 at *; have k0 : wb3.cell? ⟨q, 1, none⟩ = some (.int .i64 0) := cmD_c1 M.out.at_; have k1 : wb3.frozen? ⟨q, 1, none⟩ = false := frozen_of_row _ _ _ _ _ M.out.at_)))
  clear k0 k1
  replace M := Lib.hid (M.out.put (Only.setCell wb3 ⟨q, 1, none⟩ (.int .i64 R)) (cmD_s1 M.out.at_))
  generalize wb3.setCell ⟨q, 1, none⟩ (.int .i64 R) = w4 at *
  clear HX HO HIN HOB
  obtain ⟨ra, rn, rc, h5, hin, hob⟩ := M.out.rd
  have H5 := Lib.hid h5
  have HIN := Lib.hid hin
  have HOB := Lib.hid hob
  clear h5 hin hob
  go_upto_region 5 with (first
    | (refine wpList_load_row rfl 152 (.tmp 1) rfl w.heap.size rfl 152 _ (0, 0) _ H5.out Tryz.underlying152 rfl (by kernel_rfl) ?_)
    | (go_at_call 157; (with_reducible refine (HC3.out _ w4 HIN.out).mono ?_); rintro e wc4 ⟨vx, rfl, hx, ho, hb⟩; obtain ⟨ax, cx, rfl, -⟩ := id hx; have HX := Lib.hid hx; have HO := Lib.hid (ho.trans HOB.out); replace M := Lib.hid (M.out.call hb); obtain ⟨_, _, _, h5, -⟩ := M.out.rd; replace H5 := Lib.hid h5; clear hx ho h5; clear hb)
    | (refine wpList_store_row rfl 152 (.tmp 1) (.tmp 24) rfl w.heap.size (rdC (.slice ax s3.1.length cx) (numE s3.2)) rfl rfl 152 _ H5.out (by kernel_rfl) (by rfl) (rd_one _ _ _ _) ?_; go_loud (clear H5; replace M := Lib.hid (M.out.read (s' := s3) HX.out HO.out HEs3.out); generalize wc4.setRow w.heap.size (rdC (.slice ax s3.1.length cx) (numE s3.2)) = wb4 at *))
    | (refine wpList_store_mid rfl 65 (.tmp 26) (.tmp 25) rfl q 2 (rowOf .u8 32 BK) rfl rfl (by rw [rowOf_size]; exact cmD_t2 M.out.at_) (by rw [rowOf_size]; kernel_rfl) (rowOf_one _ _ _) ?_))
  replace M := Lib.hid (M.out.put (only_cells11 q (rowOf .u8 32 BK).toList 2 wb4) (cmD_s2 M.out.at_))
  generalize wb4.setCells q 2 (rowOf .u8 32 BK).toList = w5 at *
  clear HX HO HIN HOB
  obtain ⟨ra, rn, rc, h5, hin, hob⟩ := M.out.rd
  have H5 := Lib.hid h5
  have HIN := Lib.hid hin
  have HOB := Lib.hid hob
  clear h5 hin hob
  go_upto_region 6 with (first
    | (refine wpList_load_row rfl 152 (.tmp 1) rfl w.heap.size rfl 152 _ (0, 0) _ H5.out Tryz.underlying152 rfl (by kernel_rfl) ?_)
    | (go_at_call 155; (with_reducible refine (HC4.out _ w5 HIN.out).mono ?_); rintro e wc5 ⟨vx, rfl, hx, ho, hb⟩; obtain ⟨ax, cx, rfl, -⟩ := id hx; have HX := Lib.hid hx; have HO := Lib.hid (ho.trans HOB.out); replace M := Lib.hid (M.out.call hb); obtain ⟨_, _, _, h5, -⟩ := M.out.rd; replace H5 := Lib.hid h5; clear hx ho h5; clear hb)
    | (refine wpList_store_row rfl 152 (.tmp 1) (.tmp 30) rfl w.heap.size (rdC (.slice ax s4.1.length cx) (numE s4.2)) rfl rfl 152 _ H5.out (by kernel_rfl) (by rfl) (rd_one _ _ _ _) ?_; go_loud (clear H5; replace M := Lib.hid (M.out.read (s' := s4) HX.out HO.out HEs4.out); generalize wc5.setRow w.heap.size (rdC (.slice ax s4.1.length cx) (numE s4.2)) = wb5 at *)))
  clear HX HO HIN HOB
  have HM0 := Lib.hid (show RcR w q Z (Value.slice va s.1.length vc).ownBlock s4 H R BK wb5.heap.size 0 wb5 from ⟨.slice none 0 0, [], rfl, M.out, ⟨World.ownsRow_nil _ _ _ _, fun t ht => by cases ht⟩, bkT_lt M.out.at_, Nat.le_refl _⟩)
  obtain ⟨B, hB⟩ : ∃ B, B = wb5.heap.size := ⟨_, rfl⟩
  rw [← hB] at HM0
  clear hB M
  go_wp2_with (fail)
  go_loopw [6] (fun x wr => ∃ k : Nat, k ≤ n ∧ x = .int .i64 (k : Int) ∧ Hid (RcR w q Z (Value.slice va s.1.length vc).ownBlock s4 H R BK B k wr)) (fun x _ => n - (intOf x).toNat)
  case atStart => exact ⟨0, Nat.zero_le _, rfl, HM0⟩
  case round =>
    clear HM0
    obtain ⟨k, hkn, rfl, HM⟩ := hrel
    obtain ⟨vv, svs, hsl, hm, hlm, hqb, hbs⟩ := HM.out
    have M := Lib.hid hm
    have HL := Lib.hid hlm
    have HQB := Lib.hid hqb
    have HBS := Lib.hid hbs
    have HSL := Lib.hid hsl
    obtain ⟨la, lc, hvv⟩ := own_slice11 hlm.row
    rw [vts_len, hsl] at hvv
    subst hvv
    have HLT := Lib.hid (show ∀ j, (Value.slice la k lc).ownBlock = some j → B ≤ j ∧ j < wr.heap.size from fun j hj => hlm.row.lt j hj)
    clear HM hm hlm hqb hbs hsl
    by_cases hlt : k < n
    · have hltI : (k : Int) < (n : Int) := by omega
      obtain ⟨s5, hs5⟩ : ∃ x, x = vtN k s4 := ⟨_, rfl⟩
      have HS5 := Lib.hid hs5
      obtain ⟨s6, hs6⟩ : ∃ x, x = vtR s5 := ⟨_, rfl⟩
      have HS6 := Lib.hid hs6
      rw [← hs5] at M
      have HCV := Lib.hid (show ∀ v X, BytesIn X v s5.1 → Calls Tryz.prog 117 #[.agg (rdC v (numE s5.2))] X fun e w' => ∃ v' sv, e = .returned (.tuple #[.agg (rdC v' (numE s6.2)), .agg (voC (vtV s5 sv))]) ∧ BytesIn w' v' s6.1 ∧ v'.ownBlock = v.ownBlock ∧ BytesIn w' sv (vtG s5) ∧ (∀ j, sv.ownBlock = some j → X.heap.size ≤ j ∧ j < w'.heap.size) ∧ Below X.heap.size X w' from fun v X h => by rw [hs6]; exact rdvote_any v s5 X h (by rw [hs5]; exact vtN_k11 HOK.out k))
      have HEs6 := Lib.hid (show s5.1 = [] → s6.1 = [] from fun h => by rw [hs6]; exact vtE11 h)
      clear hs5 hs6

      go_upto_region 10 with (first
        | (refine wpList_buildTo rfl 93 #[] rfl (some 37) rfl VZ (by refine Eq.trans (congrArg (Tryz.prog.built 93) ?_) HVZ.out; kernel_rfl) ?_)
        | (refine wpList_store_row rfl 93 (.tmp 7) (.tmp 37) rfl wr.heap.size VZ rfl rfl 93 _ (heap_alloc_new _ _) (by rw [HVZS.out]; kernel_rfl) (by rw [HVZS.out]; kernel_rfl) HVZO.out ?_; rw [World.setRow_alloc_new]))
      have HQ := Lib.hid (heap_alloc_new wr (.cells VZ 93))
      have hba := below_alloc wr (.cells VZ 93)
      have HNV := Lib.hid (show (Value.slice la k lc).ownBlock ≠ some wr.heap.size ∧ ∀ t ∈ vts s4 svs, t.sv.ownBlock ≠ some wr.heap.size from ⟨fun e => by have := (HL.out.row.lt _ e).2; omega, fun t ht e => by have := ((HL.out.el t ht).2 _ e).2.1; omega⟩)
      replace M := Lib.hid (M.out.call hba)
      replace HL := Lib.hid (HL.out.call hba)
      have HW7 := Lib.hid (show B ≤ wr.heap.size from HBS.out)
      replace HBS := Lib.hid (Nat.le_trans HBS.out hba.size)
      obtain ⟨p7, hp7⟩ : ∃ p, p = wr.heap.size := ⟨_, rfl⟩
      rw [← hp7] at HQ HNV HW7 HLT ⊢
      clear hp7 hba
      generalize wr.alloc (.cells VZ 93) = w10 at *
      have HP7 := Lib.hid (show p7 < w10.heap.size from bkT_lt HQ.out)
      obtain ⟨ra, rn, rc, h5, hin, hob⟩ := M.out.rd
      have H5 := Lib.hid h5
      have HIN := Lib.hid hin
      have HOB := Lib.hid hob
      clear h5 hin hob
      have HQI := Lib.hid (show q < w10.heap.size from bkT_lt M.out.at_)
      go_upto_region 11 with (first
        | (refine wpList_load_row rfl 152 (.tmp 1) rfl w.heap.size rfl 152 _ (0, 0) _ H5.out Tryz.underlying152 rfl (by kernel_rfl) ?_)
        | (go_at_call 117; (with_reducible refine (HCV.out _ w10 HIN.out).mono ?_); rintro e wc10 ⟨vx, sv, rfl, hx, ho, hvb, hnb, hb⟩; obtain ⟨ax, cx, rfl, -⟩ := id hx; have HX := Lib.hid hx; have HO := Lib.hid (ho.trans HOB.out); replace M := Lib.hid (M.out.call hb); obtain ⟨_, _, _, h5, -⟩ := M.out.rd; replace H5 := Lib.hid h5; clear hx ho h5; have HVB := Lib.hid hvb; have HNB := Lib.hid (show ∀ j, sv.ownBlock = some j → w10.heap.size ≤ j ∧ j < wc10.heap.size from hnb); have HSVS := Lib.hid (show ∃ a n c, sv = .slice a n c from by obtain ⟨a, c, e, _⟩ := hvb; exact ⟨_, _, _, e⟩); clear hvb hnb; replace HL := Lib.hid (HL.out.call hb); replace HBS := Lib.hid (Nat.le_trans HBS.out hb.size); replace HQ := Lib.hid ((hb.block _ (bkT_lt HQ.out)).trans HQ.out); obtain ⟨T, hT⟩ : ∃ t, t = vtV s5 sv := ⟨_, rfl⟩; have HT := Lib.hid hT; have HTS := Lib.hid (show T.sv = sv from by rw [hT]; rfl); have HTG := Lib.hid (show T.sign = vtG s5 from by rw [hT]; rfl); have HTX := Lib.hid (show ∃ a n c, T.sv = .slice a n c from by rw [HTS.out]; exact HSVS.out); rw [← hT]; clear hT; obtain ⟨TC, hTC⟩ : ∃ t, t = voC T := ⟨_, rfl⟩; have HTC := Lib.hid hTC; have HTCS := Lib.hid ((congrArg Array.size hTC).trans (voC_size T)); have HTCO := Lib.hid (show TC.all (·.oneCell') = true from by rw [hTC]; exact voC_one T HTX.out); rw [← hTC]; clear hTC; clear hb)
        | (refine wpList_store_row rfl 152 (.tmp 1) (.tmp 41) rfl w.heap.size (rdC (.slice ax s6.1.length cx) (numE s6.2)) rfl rfl 152 _ H5.out (by kernel_rfl) (by rfl) (rd_one _ _ _ _) ?_; go_loud (clear H5; replace HVB := Lib.hid (M.out.row (rdC (.slice ax s6.1.length cx) (numE s6.2)) HVB.out); replace HNB := Lib.hid (show ∀ j, sv.ownBlock = some j → w10.heap.size ≤ j ∧ j < (wc10.setRow w.heap.size (rdC (.slice ax s6.1.length cx) (numE s6.2))).heap.size from fun j hj => ⟨(HNB.out j hj).1, Nat.lt_of_lt_of_le (HNB.out j hj).2 (only_setRow11 wc10 w.heap.size (rdC (.slice ax s6.1.length cx) (numE s6.2))).size⟩); replace HL := Lib.hid (HL.out.only (only_setRow11 wc10 w.heap.size (rdC (.slice ax s6.1.length cx) (numE s6.2))) (by have := M.out.q3; have := HQB.out; omega)); replace HQ := Lib.hid ((setRow_other wc10 w.heap.size p7 (rdC (.slice ax s6.1.length cx) (numE s6.2)) (by have := M.out.q3; have := HQB.out; have := HW7.out; omega)).trans HQ.out); replace HBS := Lib.hid (Nat.le_trans HBS.out (only_setRow11 wc10 w.heap.size (rdC (.slice ax s6.1.length cx) (numE s6.2))).size); replace M := Lib.hid (M.out.read (s' := s6) HX.out HO.out HEs6.out); generalize wc10.setRow w.heap.size (rdC (.slice ax s6.1.length cx) (numE s6.2)) = wb10 at *))
        | (refine wpList_store_row rfl 93 (.tmp 7) (.tmp 42) rfl p7 TC rfl rfl 93 _ HQ.out (by rw [HTCS.out]; kernel_rfl) (by rw [HTCS.out, HVZS.out]) HTCO.out ?_))
      clear HX HO HIN HOB
      have ho7 := only_setRow11 wb10 p7 TC
      replace M := Lib.hid (M.out.side ho7 (by have := HQB.out; have := HW7.out; omega))
      replace HL := Lib.hid (HL.out.side ho7 HNV.out.1 HNV.out.2)
      replace HVB := Lib.hid (HVB.out.only11 ho7 (fun _ j hj => by have := (HNB.out j hj).1; have := HP7.out; omega))
      have HQT := Lib.hid (show (wb10.setRow p7 TC).heap[p7]? = some (.cells TC 93 (0, 0)) from setRow_heap _ _ _ _ _ _ HQ.out)
      replace HNB := Lib.hid (show ∀ j, sv.ownBlock = some j → w10.heap.size ≤ j ∧ j < (wb10.setRow p7 TC).heap.size from fun j hj => ⟨(HNB.out j hj).1, Nat.lt_of_lt_of_le (HNB.out j hj).2 ho7.size⟩)
      replace HBS := Lib.hid (Nat.le_trans HBS.out ho7.size)
      clear ho7 HQ
      generalize wb10.setRow p7 TC = w11 at *
      have HNV2 := Lib.hid (show ∀ j, T.sv.ownBlock = some j → B ≤ j ∧ j < w11.heap.size ∧ (Value.slice la k lc).ownBlock ≠ some j from fun j hj => by
        rw [HTS.out] at hj
        have h1 := HNB.out j hj
        have h2 := HP7.out
        exact ⟨by have := HW7.out; omega, h1.2, fun e => by have := (HLT.out _ e); omega⟩)
      have c34 : w11.cell? ⟨q, 34, none⟩ = some (.slice la k lc) := cmD_c3 M.out.at_
      go_upto_region 8 with (first
        | (refine wpList_load_row rfl 93 (.tmp 7) rfl p7 rfl 93 _ (0, 0) _ HQT.out Tryz.underlying93 rfl (by rw [HTCS.out]; kernel_rfl) ?_)
        | (refine wpList_oneV rfl (.tmp 45) rfl (some 46) rfl T HTX.out (.agg TC) (by rw [HTC.out]) rfl ?_; have HQ9 := Lib.hid (heap_alloc_new w11 (.cells (voTL T).toArray 93)); have hb9 := below_alloc w11 (.cells (voTL T).toArray 93); replace M := Lib.hid (M.out.call hb9); replace HL := Lib.hid (HL.out.call hb9); replace HVB := Lib.hid (HVB.out.below hb9); replace HBS := Lib.hid (Nat.le_trans HBS.out hb9.size); replace HNV2 := Lib.hid (show ∀ j, T.sv.ownBlock = some j → B ≤ j ∧ j < (w11.alloc (.cells (voTL T).toArray 93)).heap.size ∧ (Value.slice la k lc).ownBlock ≠ some j from fun j hj => ⟨(HNV2.out j hj).1, Nat.lt_of_lt_of_le (HNV2.out j hj).2.1 hb9.size, (HNV2.out j hj).2.2⟩); clear hb9; obtain ⟨p9, hp9⟩ : ∃ p, p = w11.heap.size := ⟨_, rfl⟩; rw [← hp9] at HQ9 ⊢; clear hp9; generalize w11.alloc (.cells (voTL T).toArray 93) = w12 at *)
        | (at_builtin; refine wpList_append_row11 (C := voTL) voTL_len 76 93 voZ11 Tryz.underlying76 infoV11 (by kernel_rfl) (by omega) rfl (.tmp 44) (.tmp 46) rfl rfl B (.slice la k lc) (vts s4 svs) rfl HL.out.row p9 T (voTL_one HTX.out) rfl HQ9.out (by rw [vts_len, HSL.out]; omega) (by rw [vts_len, HSL.out]; omega) HBS.out ?_; intro v4 w4 ho4 hg4 hw4; replace HL := Lib.hid (HL.out.grow (x := T) (by rw [HTS.out, HTG.out]; exact HVB.out) HNV2.out ho4 hg4 hw4); replace M := Lib.hid (M.out.grow hg4 (fun j hj => by have := HLT.out _ hj; have := HQB.out; omega)); replace HBS := Lib.hid (Nat.le_trans HBS.out hg4.size); obtain ⟨xa, xc, hxe⟩ := own_slice11 ho4; clear ho4 hg4 hw4; rw [show (vts s4 svs ++ [T]).length = k + 1 from by rw [List.length_append, vts_len, HSL.out]; rfl] at hxe; subst hxe; have k0 : w4.cell? ⟨q, 34, none⟩ = some (.slice la k lc) := cmD_c3 M.out.at_; have k1 : w4.frozen? ⟨q, 34, none⟩ = false := frozen_of_row _ _ _ _ _ M.out.at_))
      clear k0 k1 c34
      have ho5 := Only.setCell w4 ⟨q, 34, none⟩ (.slice xa (k + 1) xc)
      replace M := Lib.hid (M.out.put ho5 (cmD_s3 M.out.at_))
      replace HL := Lib.hid (HL.out.only ho5 (by show q < B; exact HQB.out))
      replace HBS := Lib.hid (Nat.le_trans HBS.out ho5.size)
      clear ho5
      generalize w4.setCell ⟨q, 34, none⟩ (.slice xa (k + 1) xc) = w5 at *
      go_wp2_with (fail)
      go_roundw
      case rel => exact ⟨k + 1, by omega, by go_num, Lib.hid ⟨_, svs ++ [sv], by rw [List.length_append, HSL.out]; rfl, by have h := M.out; rw [HS6.out, HS5.out] at h; exact h, by have h := HL.out; rw [HT.out, HS5.out] at h; rw [vts_snoc, HSL.out]; exact h, HQB.out, HBS.out⟩⟩
      case measure => simp [intOf]; omega
    · obtain rfl : k = n := by omega
      go_upto_region 12 with (fail)
      obtain ⟨CV, hCV⟩ : ∃ x, x = cmD H R BK (.slice la k lc) := ⟨_, rfl⟩
      have HCV := Lib.hid hCV
      have HVS := Lib.hid ((congrArg Array.size hCV).trans (cmD_size _ _ _ _))
      have HVO := Lib.hid (show CV.all (·.oneCell') = true from by rw [hCV]; exact cmD_one _ _ _ _ _ _)
      rw [← hCV] at M
      clear hCV
      obtain ⟨ra, rn, rc, h5, hin, hob⟩ := M.out.rd
      have HOB := Lib.hid hob
      have H5 := Lib.hid h5
      have HIN := Lib.hid hin
      clear h5 hin hob
      refine wp_region_T (fun W => W.heap[w.heap.size]? = some (.cells (rdC (.slice ra rn rc) (numE (vtN k s4).2)) 152 (0, 0)) ∧ W.heap[q]? = some (.cells CV 78 (0, 0))) [0, 1, 2, 3] (by kernel_rfl) ?_
      have hbd : Below wr.heap.size wr wr.drew := (Below.refl _ _).drew
      replace M := Lib.hid (M.out.call hbd)
      replace H5 := Lib.hid ((hbd.block _ (bkT_lt H5.out)).trans H5.out)
      replace HIN := Lib.hid (HIN.out.below hbd)
      replace HL := Lib.hid (HL.out.call hbd)
      replace HBS := Lib.hid (Nat.le_trans HBS.out hbd.size)
      clear hbd
      generalize wr.drew = wd at *
      have HS := Lib.hid (show wd.heap[w.heap.size]? = some (.cells (rdC (.slice ra rn rc) (numE (vtN k s4).2)) 152 (0, 0)) ∧ wd.heap[q]? = some (.cells CV 78 (0, 0)) from ⟨H5.out, M.out.at_⟩)
      have HF := Lib.hid (M.out.fin H5.out)
      refine anyT_take [] (i := 0) (v := .agg (rdC (.slice ra rn rc) (numE (vtN k s4).2))) rfl (by kernel_rfl) (by kernel_rfl) (by kernel_rfl) (fun _ _ _ h => h) (by kernel_rfl) (rdagg_yields (by rfl) 152 (.tmp 1) rfl w.heap.size rfl _ _ (fun _ h => h.1) Tryz.underlying152 rfl (by kernel_rfl)) HS.out ?_
      try simp only [List.getElem_toArray, List.getElem_cons_succ, List.getElem_cons_zero, Act.put, List.setIfInBounds_toArray, List.set_cons_zero, List.set_cons_succ]
      refine anyT_take [] (i := 1) (v := .agg CV) rfl (by kernel_rfl) (by kernel_rfl) (by kernel_rfl) (fun _ _ _ h => h) (by kernel_rfl) (rdagg_yields (by rfl) 78 (.tmp 4) rfl q rfl _ _ (fun _ h => h.2) Tryz.underlying78 rfl (by rw [HVS.out]; kernel_rfl)) HS.out ?_
      try simp only [List.getElem_toArray, List.getElem_cons_succ, List.getElem_cons_zero, Act.put, List.setIfInBounds_toArray, List.set_cons_zero, List.set_cons_succ]
      refine anyT_one (i := 2) (by kernel_rfl) rfl (fun K hK => ?_)
      rw [if_pos (by rfl)]
      try simp only [List.getElem_toArray, List.getElem_cons_succ, List.getElem_cons_zero]
      (refine wp_store_row 152 (.tmp 2) (.tmp 49) rfl (w.heap.size + 1) (rdC (.slice ra rn rc) (numE (vtN k s4).2)) rfl rfl 152 _ HF.out.r0 (by kernel_rfl) (by rfl) (rd_one _ _ _ _) ?_)
      refine hK _ _ (fun _ => HF.out.s1) ?_
      clear hK K
      try simp only [List.getElem_toArray, List.getElem_cons_succ, List.getElem_cons_zero, Act.put, List.setIfInBounds_toArray, List.set_cons_zero, List.set_cons_succ]
      refine anyT_one (i := 3) (by kernel_rfl) rfl (fun K hK => ?_)
      rw [if_pos (by rfl)]
      try simp only [List.getElem_toArray, List.getElem_cons_succ, List.getElem_cons_zero]
      (refine wp_store_row 78 (.tmp 3) (.tmp 50) rfl (w.heap.size + 1 + 1) CV rfl rfl 78 _ HF.out.r1 (by rw [HVS.out]; kernel_rfl) (by rw [HVS.out, HZ.out]) HVO.out ?_)
      refine hK _ _ (fun _ => HF.out.s2) ?_
      clear hK K
      try simp only [List.getElem_toArray, List.getElem_cons_succ, List.getElem_cons_zero, Act.put, List.setIfInBounds_toArray, List.set_cons_zero, List.set_cons_succ]
      refine anyT_done (by kernel_rfl) ?_ _
      have HE := Lib.hid HF.out.end_
      have HRA := Lib.hid HF.out.a
      have HRB := Lib.hid HF.out.b
      generalize (World.setRow _ (w.heap.size + 1 + 1) CV) = wz at *
      go_wp2_with (fail)
      refine bodyPost_ret (results_cell2_row rfl _ _ (w.heap.size + 1) (w.heap.size + 1 + 1) 152 78 _ _ (0, 0) (0, 0) _ _ rfl HRA.out Tryz.underlying152 rfl (by kernel_rfl) rfl HRB.out Tryz.underlying78 rfl (by rw [HVS.out]; kernel_rfl)) rfl ?_
      have hQL := HQL.out
      have hend := HE.out
      rw [HR.out, HCT.out]
      have hqb := HQB.out
      have hll := HL.out.keep (w' := wz) (fun j hB hj => hend.2.2 j (by omega) (by omega)) (by rw [hend.2.1]; exact Nat.le_refl _)
      exact ⟨_, .slice la k lc, svs, HSL.out, by rw [HV.out, HCV.out], bytes_blk11 HIN.out (fun hn k hk => hend.2.2 k (by have := M.out.obN hn k (HOB.out ▸ hk); omega) (by have := M.out.obN hn k (HOB.out ▸ hk); omega)), HOB.out, ⟨rows_of_own voTL_len hll.row (by rw [vts_len, HSL.out]; unfold maxLen; omega), fun j hj => by have := (hll.row.lt j hj).1; omega, fun t ht => ⟨(hll.el t ht).1, fun j hj => by have := ((hll.el t ht).2 j hj).1; omega⟩⟩, hend.1⟩
end Go.Proofs.YtanekacpalpcbaaGreatDoor

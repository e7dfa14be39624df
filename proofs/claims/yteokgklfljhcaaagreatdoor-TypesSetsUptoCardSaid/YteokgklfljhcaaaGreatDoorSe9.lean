/- Part 9 of the proof. -/
import Derived.Test.YteokgklfljhcaaaGreatDoorSe4
import Derived.Test.YteokgklfljhcaaaGreatDoorSe8
namespace Go.Proofs.YteokgklfljhcaaaGreatDoor
set_option linter.unusedVariables false
set_option linter.unusedSimpArgs false
open Go.RowKit
set_option maxRecDepth 100000
theorem results_cell2_row {P : Program} {fn : Func} {p q : Tmp} {ty ty' : TypeId} (h : fn.results = #[.cell p ty, .cell q ty']) (tmps : Array Value) (w : World) (g g' : Nat) (t t' : TypeId) (cs cs' : Array Value) (fr fr' : Nat × Nat) (d d' : TypeDesc)
    (hp : tmps.getD p undef = .pointer (some ⟨g, 0, none⟩)) (hg : w.heap[g]? = some (.cells cs t fr)) (hu : P.underlying ty = some d) (hd : (match d with | .struct _ | .array _ _ => true | _ => false) = true) (hi : (P.info? ty).map (·.size) = some cs.size)
    (hp' : tmps.getD q undef = .pointer (some ⟨g', 0, none⟩)) (hg' : w.heap[g']? = some (.cells cs' t' fr')) (hu' : P.underlying ty' = some d') (hd' : (match d' with | .struct _ | .array _ _ => true | _ => false) = true) (hi' : (P.info? ty').map (·.size) = some cs'.size) :
    (results fn tmps).run P w = .ok (.tuple #[.agg cs, .agg cs']) w := by
  have h1 : tmps[p]?.getD undef = .pointer (some ⟨g, 0, none⟩) := by simpa using hp
  have h2 : tmps[q]?.getD undef = .pointer (some ⟨g', 0, none⟩) := by simpa using hp'
  simp [results, h, h1, h2, asAddr, run_loadVar_row w g t ty cs fr d hg hu hd hi, run_loadVar_row w g' t' ty' cs' fr' d' hg' hu' hd' hi']
theorem rdagg_yields {P : Program} {ops : Array Oper} {S : World → Prop} {op : Oper} {a : Act} (hw : Region.wanted op (yielded ops a.tmps) = true) (ty : TypeId) (x : Operand) (ho : op.op = .load ty x)
    (b : Nat) (hx : a.eval x = .pointer (some ⟨b, 0, none⟩)) (cs : Array Value) (d : TypeDesc) (hS : ∀ w, S w → w.heap[b]? = some (.cells cs ty (0, 0)))
    (hu : P.underlying ty = some d) (hd : d.isRow = true) (hi : (P.info? ty).map (·.size) = some cs.size) : YieldsIf P ops S op (.agg cs) a := by
  have h := yieldsIf_load_mid (P := P) (S := S) hw ty x ho b 0 hx cs.toList d (fun w h j v hv => by rw [Nat.zero_add, cell_of_row w b j _ ty _ (hS w h)]; simpa using hv) hu hd (by rw [hi]; simp)
  simpa using h
theorem cut_block (a : Option Addr) (c p n m n' m' : Nat) : (Value.slice (cutA a c p) n m).ownBlock = (Value.slice a n' m').ownBlock := by
  unfold cutA
  split
  · cases a <;> simp [Value.ownBlock]
  · cases a with
    | none => simp [Value.ownBlock]
    | some x =>
      simp only [Option.map_some, Value.ownBlock]
      unfold Addr.add
      split <;> rfl
def RhPost (v : Value) (r : (Nat → Int) × RSt) (w : World) (e : Ending) (w' : World) : Prop :=
  ∃ v', e = .returned (.tuple #[.agg (rdC v' (numE r.2.2)), .agg (rowOf .u8 32 r.1)]) ∧ BytesIn w' v' r.2.1 ∧ v'.ownBlock = v.ownBlock ∧ Below w.heap.size w w'
structure RhM (w w' : World) (v : Value) (e : Int) (f : Nat → Int) : Prop where
  below : Below w.heap.size w w'
  arg : w'.heap[w.heap.size]? = some (.cells (rdC v e) 104 (0, 0))
  res : w'.heap[w.heap.size + 1]? = some (.cells (rdC (.slice none 0 0) 0) 104 (0, 0))
  rh : RowAt w' (w.heap.size + 1 + 1) .u8 32 23 (fun _ => 0)
  hh : RowAt w' (w.heap.size + 1 + 1 + 1) .u8 32 23 f
theorem RhM.call {w w' w2 : World} {v : Value} {e : Int} {f : Nat → Int} (m : RhM w w' v e f) (h : Below w'.heap.size w' w2) : RhM w w2 v e f :=
  ⟨m.below.trans (h.mono m.below.size), (h.block _ (Array.getElem?_eq_some_iff.1 m.arg).1).trans m.arg, (h.block _ (Array.getElem?_eq_some_iff.1 m.res).1).trans m.res, m.rh.below h m.rh.lt, m.hh.below h m.hh.lt⟩
def rhW (w : World) (v : Value) (e : Int) : World := (((w.alloc (.cells (rdC v e) 104)).alloc (.cells (rdC (.slice none 0 0) 0) 104)).alloc (.cells (rowOf .u8 32 (fun _ => 0)) 23)).alloc (.cells (rowOf .u8 32 (fun _ => 0)) 23)
theorem rhM_start (w : World) (v : Value) (e : Int) : RhM w (rhW w v e) v e (fun _ => 0) := by
  have m := r2M_start w v e
  have s1 : ((w.alloc (.cells (rdC v e) 104)).alloc (.cells (rdC (.slice none 0 0) 0) 104)).heap.size = w.heap.size + 1 + 1 := by simp
  have b3 := below_alloc ((w.alloc (.cells (rdC v e) 104)).alloc (.cells (rdC (.slice none 0 0) 0) 104)) (.cells (rowOf .u8 32 (fun _ => 0)) 23)
  have r3 := RowAt.new ((w.alloc (.cells (rdC v e) 104)).alloc (.cells (rdC (.slice none 0 0) 0) 104)) .u8 32 23 (fun _ => 0)
  have m3 := m.call b3
  rw [s1] at r3
  have b4 := below_alloc (((w.alloc (.cells (rdC v e) 104)).alloc (.cells (rdC (.slice none 0 0) 0) 104)).alloc (.cells (rowOf .u8 32 (fun _ => 0)) 23)) (.cells (rowOf .u8 32 (fun _ => 0)) 23)
  have r4 := RowAt.new (((w.alloc (.cells (rdC v e) 104)).alloc (.cells (rdC (.slice none 0 0) 0) 104)).alloc (.cells (rowOf .u8 32 (fun _ => 0)) 23)) .u8 32 23 (fun _ => 0)
  rw [show (((w.alloc (.cells (rdC v e) 104)).alloc (.cells (rdC (.slice none 0 0) 0) 104)).alloc (.cells (rowOf .u8 32 (fun _ => 0)) 23)).heap.size = w.heap.size + 1 + 1 + 1 by simp] at r4
  have m4 := m3.call b4
  exact ⟨m4.below, m4.arg, m4.res, r3.below b4 r3.lt, r4⟩
theorem RhM.put {w w' : World} {v : Value} {e : Int} {f : Nat → Int} (m : RhM w w' v e f) (cs : Array Value) : Below w.heap.size w (w'.setRow (w.heap.size + 1) cs) ∧ (w'.setRow (w.heap.size + 1) cs).heap[w.heap.size]? = some (.cells (rdC v e) 104 (0, 0)) ∧ RowAt (w'.setRow (w.heap.size + 1) cs) (w.heap.size + 1 + 1 + 1) .u8 32 23 f ∧ RowAt (w'.setRow (w.heap.size + 1) cs) (w.heap.size + 1 + 1) .u8 32 23 (fun _ => 0) ∧ (w'.setRow (w.heap.size + 1) cs).heap[w.heap.size + 1]? = some (.cells cs 104 (0, 0)) :=
  ⟨below_setRow m.below (by omega) _, (setRow_other _ _ _ _ (by omega)).trans m.arg, (setRow_other _ _ _ _ (by omega)).trans m.hh, (setRow_other _ _ _ _ (by omega)).trans m.rh, setRow_heap _ _ _ _ _ _ m.res⟩
theorem rhash2_err (v : Value) (ys : List Int) (x : Nat) (hx0 : 0 < x) (w : World) (hy : BytesIn w v ys) : Calls Tryz.prog 124 #[.agg (rdC v (x : Int))] w (RhPost v (hashS (ys, some x)) w) := by
  obtain ⟨a, c, rfl, -⟩ := id hy
  have M := Lib.hid (rhM_start w (.slice a ys.length c) (x : Int))
  have HY := Lib.hid hy
  have hne : ((x : Int) != 0) = true := by simp; omega
  clear hy
  go_enter Tryz.func124, Tryz.ntmps124
  go_upto_region 2 with (fail)
  rw [← r2_zero, zeros32]
  rw [show (((w.alloc (.cells (rdC (.slice a ys.length c) (x : Int)) 104)).alloc (.cells (rdC (.slice none 0 0) 0) 104)).alloc (.cells (rowOf .u8 32 (fun _ => 0)) 23)).alloc (.cells (rowOf .u8 32 (fun _ => 0)) 23) = rhW w (.slice a ys.length c) (x : Int) from rfl]
  generalize rhW w (.slice a ys.length c) (x : Int) = w1 at *
  obtain ⟨c0, c1, -⟩ := rd_cells M.out.arg
  go_upto_region 3 with (fail)
  clear c0 c1
  refine wp_region_T (fun w' => w'.heap[w.heap.size]? = some (.cells (rdC (.slice a ys.length c) (x : Int)) 104 (0, 0)) ∧ RowAt w' (w.heap.size + 1 + 1 + 1) .u8 32 23 (fun _ => 0)) [0, 1, 2] (by kernel_rfl) ?_
  replace M := Lib.hid (M.out.call (Below.refl _ _).drew)
  generalize w1.drew = w2 at *
  refine anyT_take [2, 3] (i := 0) (v := .agg (rdC (.slice a ys.length c) (x : Int))) rfl (by kernel_rfl) (by kernel_rfl) (by kernel_rfl) (fun _ _ _ h => h) (by kernel_rfl) (rdagg_yields (by rfl) 104 (.tmp 1) rfl w.heap.size rfl _ _ (fun _ h => h.1) Tryz.underlying104 rfl (by kernel_rfl)) ⟨M.out.arg, M.out.hh⟩ ?_
  try simp only [List.getElem_toArray, List.getElem_cons_succ, List.getElem_cons_zero, Act.put, List.setIfInBounds_toArray, List.set_cons_zero, List.set_cons_succ]
  refine anyT_take [3] (i := 1) (v := .agg (rowOf .u8 32 (fun _ => 0))) rfl (by kernel_rfl) (by kernel_rfl) (by kernel_rfl) (fun _ _ _ h => h) (by kernel_rfl) (row_yields (by rfl) 23 (.tmp 4) rfl (w.heap.size + 1 + 1 + 1) rfl .u8 32 (fun _ => 0) _ (fun _ h => h.2) Tryz.underlying23 rfl (by kernel_rfl)) ⟨M.out.arg, M.out.hh⟩ ?_
  try simp only [List.getElem_toArray, List.getElem_cons_succ, List.getElem_cons_zero, Act.put, List.setIfInBounds_toArray, List.set_cons_zero, List.set_cons_succ]
  refine anyT_one (i := 2) (by kernel_rfl) rfl (fun K hK => ?_)
  rw [if_pos (by rfl)]
  try simp only [List.getElem_toArray, List.getElem_cons_succ, List.getElem_cons_zero]
  (refine wp_store_row 104 (.tmp 2) (.tmp 8) rfl (w.heap.size + 1) (rdC (.slice a ys.length c) (x : Int)) rfl rfl 104 _ M.out.res (by kernel_rfl) (by rfl) (rd_one _ _ _ _) ?_; have P := Lib.hid (M.out.put (rdC (.slice a ys.length c) (x : Int))); generalize w2.setRow (w.heap.size + 1) (rdC (.slice a ys.length c) (x : Int)) = w3 at *)
  refine hK _ _ (fun _ => ⟨P.out.2.1, P.out.2.2.1⟩) ?_
  clear hK K
  try simp only [List.getElem_toArray, List.getElem_cons_succ, List.getElem_cons_zero, Act.put, List.setIfInBounds_toArray, List.set_cons_zero, List.set_cons_succ]
  refine anyT_one (i := 3) (by kernel_rfl) rfl (fun K hK => ?_)
  rw [if_pos (by rfl)]
  try simp only [List.getElem_toArray, List.getElem_cons_succ, List.getElem_cons_zero]
  (refine wp_store_row 23 (.tmp 3) (.tmp 9) rfl (w.heap.size + 1 + 1) (rowOf .u8 32 (fun _ => 0)) rfl rfl 23 _ P.out.2.2.2.1 (by rw [rowOf_size]; kernel_rfl) (by rw [rowOf_size]) (rowOf_one _ _ _) ?_)
  refine hK _ _ (not_mem rfl) ?_
  clear hK K
  try simp only [List.getElem_toArray, List.getElem_cons_succ, List.getElem_cons_zero, Act.put, List.setIfInBounds_toArray, List.set_cons_zero, List.set_cons_succ]
  refine anyT_done (by kernel_rfl) ?_ _
  go_wp2_with (fail)
  have hb : Below w.heap.size w (w3.setRow (w.heap.size + 1 + 1) (rowOf .u8 32 (fun _ => 0))) := below_setRow P.out.1 (by omega) _
  refine bodyPost_ret (results_cell2_row rfl _ _ (w.heap.size + 1) (w.heap.size + 1 + 1) 104 23 _ _ (0, 0) (0, 0) _ _ rfl ((setRow_other _ _ _ _ (by omega)).trans P.out.2.2.2.2) Tryz.underlying104 rfl (by kernel_rfl) rfl (setRow_heap _ _ _ _ _ _ P.out.2.2.2.1) Tryz.underlying23 rfl (by rw [rowOf_size]; kernel_rfl)) rfl ?_
  rw [hashS_err]
  exact ⟨_, rfl, HY.out.below hb, rfl, hb⟩
theorem rhash2_short (v : Value) (ys : List Int) (w : World) (hy : BytesIn w v ys) (hs : ys.length < 32) : Calls Tryz.prog 124 #[.agg (rdC v 0)] w (RhPost v (hashS (ys, none)) w) := by
  obtain ⟨a, c, rfl, -⟩ := id hy
  have M := Lib.hid (rhM_start w (.slice a ys.length c) 0)
  have HY := Lib.hid hy
  have HF := Lib.hid (show ∀ w, Calls Tryz.prog 160 #[.agg (rdC (.slice a ys.length c) 0), .int .i64 12] w fun r w' => r = .returned (.agg (rdC (.slice a ys.length c) 12)) ∧ Below w.heap.size w w' from fun w => by
    have h := rfail_any a ys.length c 0 12 w
    rw [if_pos rfl] at h
    exact h)
  have HH := Lib.hid (hashS_short hs)
  have hs1 : (ys.length : Int) < 32 := by omega
  clear hy hs
  go_enter Tryz.func124, Tryz.ntmps124
  go_upto_region 2 with (fail)
  rw [← r2_zero, zeros32]
  rw [show (((w.alloc (.cells (rdC (.slice a ys.length c) 0) 104)).alloc (.cells (rdC (.slice none 0 0) 0) 104)).alloc (.cells (rowOf .u8 32 (fun _ => 0)) 23)).alloc (.cells (rowOf .u8 32 (fun _ => 0)) 23) = rhW w (.slice a ys.length c) 0 from rfl]
  generalize rhW w (.slice a ys.length c) 0 = w1 at *
  obtain ⟨c0, c1, -⟩ := rd_cells M.out.arg
  go_upto_region 5 with (fail)
  clear c0 c1
  refine wp_region_T (fun w' => w'.heap[w.heap.size]? = some (.cells (rdC (.slice a ys.length c) 0) 104 (0, 0)) ∧ RowAt w' (w.heap.size + 1 + 1 + 1) .u8 32 23 (fun _ => 0)) [0, 1, 2, 3] (by kernel_rfl) ?_
  replace M := Lib.hid (M.out.call (Below.refl _ _).drew)
  generalize w1.drew = w2 at *
  refine anyT_take [1, 3, 4] (i := 0) (v := .agg (rdC (.slice a ys.length c) 0)) rfl (by kernel_rfl) (by kernel_rfl) (by kernel_rfl) (fun _ _ _ h => h) (by kernel_rfl) (rdagg_yields (by rfl) 104 (.tmp 1) rfl w.heap.size rfl _ _ (fun _ h => h.1) Tryz.underlying104 rfl (by kernel_rfl)) ⟨M.out.arg, M.out.hh⟩ ?_
  try simp only [List.getElem_toArray, List.getElem_cons_succ, List.getElem_cons_zero, Act.put, List.setIfInBounds_toArray, List.set_cons_zero, List.set_cons_succ]
  refine anyT_take [4] (i := 2) (v := .agg (rowOf .u8 32 (fun _ => 0))) rfl (by kernel_rfl) (by kernel_rfl) (by kernel_rfl) (fun _ _ _ h => h) (by kernel_rfl) (row_yields (by rfl) 23 (.tmp 4) rfl (w.heap.size + 1 + 1 + 1) rfl .u8 32 (fun _ => 0) _ (fun _ h => h.2) Tryz.underlying23 rfl (by kernel_rfl)) ⟨M.out.arg, M.out.hh⟩ ?_
  try simp only [List.getElem_toArray, List.getElem_cons_succ, List.getElem_cons_zero, Act.put, List.setIfInBounds_toArray, List.set_cons_zero, List.set_cons_succ]
  refine anyT_one (i := 1) (by kernel_rfl) rfl (fun K hK => ?_)
  rw [if_pos (by rfl)]
  try simp only [List.getElem_toArray, List.getElem_cons_succ, List.getElem_cons_zero]
  (go_simp; refine (HF.out _).mono ?_; rintro e w3 ⟨rfl, hb⟩; replace M := Lib.hid (M.out.call hb); clear hb)
  refine hK _ _ (fun _ => ⟨M.out.arg, M.out.hh⟩) ?_
  clear hK K
  try simp only [List.getElem_toArray, List.getElem_cons_succ, List.getElem_cons_zero, Act.put, List.setIfInBounds_toArray, List.set_cons_zero, List.set_cons_succ]
  refine anyT_one (i := 3) (by kernel_rfl) rfl (fun K hK => ?_)
  rw [if_pos (by rfl)]
  try simp only [List.getElem_toArray, List.getElem_cons_succ, List.getElem_cons_zero]
  (refine wp_store_row 104 (.tmp 2) (.tmp 15) rfl (w.heap.size + 1) (rdC (.slice a ys.length c) 12) rfl rfl 104 _ M.out.res (by kernel_rfl) (by rfl) (rd_one _ _ _ _) ?_; have P := Lib.hid (M.out.put (rdC (.slice a ys.length c) 12)); generalize w3.setRow (w.heap.size + 1) (rdC (.slice a ys.length c) 12) = w4 at *)
  refine hK _ _ (fun _ => ⟨P.out.2.1, P.out.2.2.1⟩) ?_
  clear hK K
  try simp only [List.getElem_toArray, List.getElem_cons_succ, List.getElem_cons_zero, Act.put, List.setIfInBounds_toArray, List.set_cons_zero, List.set_cons_succ]
  refine anyT_one (i := 4) (by kernel_rfl) rfl (fun K hK => ?_)
  rw [if_pos (by rfl)]
  try simp only [List.getElem_toArray, List.getElem_cons_succ, List.getElem_cons_zero]
  (refine wp_store_row 23 (.tmp 3) (.tmp 16) rfl (w.heap.size + 1 + 1) (rowOf .u8 32 (fun _ => 0)) rfl rfl 23 _ P.out.2.2.2.1 (by rw [rowOf_size]; kernel_rfl) (by rw [rowOf_size]) (rowOf_one _ _ _) ?_)
  refine hK _ _ (not_mem rfl) ?_
  clear hK K
  try simp only [List.getElem_toArray, List.getElem_cons_succ, List.getElem_cons_zero, Act.put, List.setIfInBounds_toArray, List.set_cons_zero, List.set_cons_succ]
  refine anyT_done (by kernel_rfl) ?_ _
  go_wp2_with (fail)
  have hb : Below w.heap.size w (w4.setRow (w.heap.size + 1 + 1) (rowOf .u8 32 (fun _ => 0))) := below_setRow P.out.1 (by omega) _
  refine bodyPost_ret (results_cell2_row rfl _ _ (w.heap.size + 1) (w.heap.size + 1 + 1) 104 23 _ _ (0, 0) (0, 0) _ _ rfl ((setRow_other _ _ _ _ (by omega)).trans P.out.2.2.2.2) Tryz.underlying104 rfl (by kernel_rfl) rfl (setRow_heap _ _ _ _ _ _ P.out.2.2.2.1) Tryz.underlying23 rfl (by rw [rowOf_size]; kernel_rfl)) rfl ?_
  rw [HH.out]
  exact ⟨_, rfl, HY.out.below hb, rfl, hb⟩
theorem RhM.copied {w w' : World} {v : Value} {e : Int} {f : Nat → Int} (m : RhM w w' v e f) (f2 : Nat → Int) : RhM w (w'.setRow (w.heap.size + 1 + 1 + 1) (rowOf .u8 32 f2)) v e f2 :=
  ⟨below_setRow m.below (by omega) _, (setRow_other _ _ _ _ (by omega)).trans m.arg, (setRow_other _ _ _ _ (by omega)).trans m.res, (setRow_other _ _ _ _ (by omega)).trans m.rh, setRow_heap _ _ _ _ _ _ m.hh⟩
theorem RhM.set {w w' : World} {v v' : Value} {e : Int} {f : Nat → Int} (m : RhM w w' v e f) : RhM w (w'.setCell ⟨w.heap.size, 0, none⟩ v') v' e f := by
  have hO := Only.setCell w' ⟨w.heap.size, 0, none⟩ v'
  exact ⟨m.below.trans (hO.below (Nat.le_refl _) m.below.size), by rw [heap_setCell_same w' _ 0 _ _ _ m.arg]; rfl, (hO.block _ (Array.getElem?_eq_some_iff.1 m.res).1 (by show _ ≠ w.heap.size; omega)).trans m.res, (hO.block _ m.rh.lt (by show _ ≠ w.heap.size; omega)).trans m.rh, (hO.block _ m.hh.lt (by show _ ≠ w.heap.size; omega)).trans m.hh⟩
set_option maxHeartbeats 1000000 in
theorem rhash2_long (v : Value) (ys : List Int) (w : World) (hy : BytesIn w v ys) (hs : ¬ ys.length < 32) : Calls Tryz.prog 124 #[.agg (rdC v 0)] w (RhPost v (hashS (ys, none)) w) := by
  obtain ⟨a, c, rfl, hc, hm, hx⟩ := id hy
  obtain ⟨ab, ao, rfl, hx2⟩ := hx.resolve_left (fun h0 => by rw [h0] at hs; simp at hs)
  have M := Lib.hid (rhM_start w (.slice (some ⟨ab, ao, none⟩) ys.length c) 0)
  have HY := Lib.hid hy
  have HX := Lib.hid hx2
  have HH := Lib.hid (hashS_long hs)
  have hs1 : ¬ (ys.length : Int) < 32 := by omega
  have HS := Lib.hid hs
  obtain ⟨a, ha⟩ : ∃ a : Option Addr, a = some ⟨ab, ao, none⟩ := ⟨_, rfl⟩
  rw [← ha] at HY M ⊢
  have HA := Lib.hid ha
  clear hy hs hx hx2 ha
  go_enter Tryz.func124, Tryz.ntmps124
  go_upto_region 2 with (fail)
  rw [← r2_zero, zeros32]
  rw [show (((w.alloc (.cells (rdC (.slice a ys.length c) 0) 104)).alloc (.cells (rdC (.slice none 0 0) 0) 104)).alloc (.cells (rowOf .u8 32 (fun _ => 0)) 23)).alloc (.cells (rowOf .u8 32 (fun _ => 0)) 23) = rhW w (.slice a ys.length c) 0 from rfl]
  generalize rhW w (.slice a ys.length c) 0 = w1 at *
  obtain ⟨c0, c1, -⟩ := rd_cells M.out.arg
  go_upto_region 6 with (fail)
  refine wp_region_T (fun w' => w'.heap[w.heap.size]? = some (.cells (rdC (.slice a ys.length c) 0) 104 (0, 0))) [2] (by kernel_rfl) ?_
  replace M := Lib.hid (M.out.call (Below.refl _ _).drew)
  clear c0 c1
  generalize w1.drew = w2 at *
  have hcp := run_copy_row (P := Tryz.prog) w2 39 39 3 5 (w.heap.size + 1 + 1 + 1) 0 32 32 ⟨ab, ao, none⟩ ys.length c _ 23 (byteVals (ys.take 32)) Tryz.underlying39 (by kernel_rfl) M.out.hh (by rw [byteVals_length, List.length_take]; have := HS.out; show min 32 ys.length = min ys.length 32; omega) (fun j v hv => by
    rw [Addr.add_mid]
    simp only [byteVals, List.getElem?_map] at hv
    cases hj : (ys.take 32)[j]? with
    | none => rw [hj] at hv; cases hv
    | some x =>
      rw [hj] at hv; cases hv
      have hj32 : j < 32 := by have := (List.getElem?_eq_some_iff.1 hj).1; rw [List.length_take] at this; omega
      rw [List.getElem?_take, if_pos hj32] at hj
      have h1 := HX.out j x hj
      exact (M.out.below.cell (p := ⟨ab, ao + j, none⟩) (World.block_lt_of_cell? w _ h1)).trans h1) (by rw [byteVals_length, List.length_take, rowOf_size]; omega) (byteVals_one _)
  rw [copied32 _ ys HS.out, ← HA.out] at hcp
  have HCP := Lib.hid hcp
  clear hcp
  refine anyT_takeY (i := 0) (v := .slice (some ⟨w.heap.size + 1 + 1 + 1, 0, none⟩) 32 32) rfl (by kernel_rfl) (by kernel_rfl) (by kernel_rfl) (fun _ _ _ h => h) (by kernel_rfl) (Or.inl ⟨by rfl, by intro w; go_simp⟩) ?_
  try simp only [List.getElem_toArray, List.getElem_cons_succ, List.getElem_cons_zero, Act.put, List.setIfInBounds_toArray, List.set_cons_zero, List.set_cons_succ]
  refine anyT_takeY (i := 1) (v := .pointer (some ⟨w.heap.size, 0, none⟩)) rfl (by kernel_rfl) (by kernel_rfl) (by kernel_rfl) (fun _ _ _ h => h) (by kernel_rfl) (Or.inl ⟨by rfl, by intro w; go_simp⟩) ?_
  try simp only [List.getElem_toArray, List.getElem_cons_succ, List.getElem_cons_zero, Act.put, List.setIfInBounds_toArray, List.set_cons_zero, List.set_cons_succ]
  refine anyT_take [3] (i := 2) (v := .slice a ys.length c) rfl (by kernel_rfl) (by kernel_rfl) (by kernel_rfl) (fun _ _ _ h => h) (by kernel_rfl) (Or.inl ⟨by rfl, fun w' hS => by obtain ⟨c0, -, -⟩ := rd_cells hS; go_simp⟩) M.out.arg ?_
  try simp only [List.getElem_toArray, List.getElem_cons_succ, List.getElem_cons_zero, Act.put, List.setIfInBounds_toArray, List.set_cons_zero, List.set_cons_succ]
  refine anyT_one (i := 3) (by kernel_rfl) rfl (fun K hK => ?_)
  rw [if_pos (by rfl)]
  try simp only [List.getElem_toArray, List.getElem_cons_succ, List.getElem_cons_zero]
  (refine wp_copy_at w2 (.tmp 17) (.tmp 19) 39 39 rfl rfl _ _ rfl rfl HCP.out ?_; replace M := Lib.hid (M.out.copied (fun i => ys.getD i 0)); clear HCP; generalize w2.setRow (w.heap.size + 1 + 1 + 1) (rowOf .u8 32 (fun i => ys.getD i 0)) = w3 at *)
  refine hK _ _ (not_mem rfl) ?_
  clear hK K
  try simp only [List.getElem_toArray, List.getElem_cons_succ, List.getElem_cons_zero, Act.put, List.setIfInBounds_toArray, List.set_cons_zero, List.set_cons_succ]
  refine anyT_done (by kernel_rfl) ?_ _
  obtain ⟨c0, c1, cf⟩ := rd_cells M.out.arg
  have f0 := cf 0
  have hsl := sliceBlo a ys.length c 32 (by have := HS.out; omega)
  rw [show ((32 : Nat) : Int) = 32 from rfl] at hsl
  have HYD := Lib.hid (HY.out.from 32 (by have := HS.out; omega))
  obtain ⟨a2, ha2⟩ : ∃ a2, a2 = cutA a c 32 := ⟨_, rfl⟩
  have HOB := Lib.hid (show (Value.slice a2 (ys.length - 32) (c - 32)).ownBlock = (Value.slice a ys.length c).ownBlock by rw [ha2]; exact cut_block _ _ _ _ _ _ _)
  rw [← ha2] at hsl HYD
  clear ha2
  go_upto_region 8 with (fail)
  replace M := Lib.hid (M.out.set (v' := .slice a2 (ys.length - 32) (c - 32)))
  clear c0 c1 cf f0 hsl
  generalize w3.setCell ⟨w.heap.size, 0, none⟩ (.slice a2 (ys.length - 32) (c - 32)) = w4 at *
  refine wp_region_T (fun w' => w'.heap[w.heap.size]? = some (.cells (rdC (.slice a2 (ys.length - 32) (c - 32)) 0) 104 (0, 0)) ∧ RowAt w' (w.heap.size + 1 + 1 + 1) .u8 32 23 (fun i => ys.getD i 0)) [0, 1, 2] (by kernel_rfl) ?_
  replace M := Lib.hid (M.out.call (Below.refl _ _).drew)
  generalize w4.drew = w5 at *
  refine anyT_take [2, 3] (i := 0) (v := .agg (rdC (.slice a2 (ys.length - 32) (c - 32)) 0)) rfl (by kernel_rfl) (by kernel_rfl) (by kernel_rfl) (fun _ _ _ h => h) (by kernel_rfl) (rdagg_yields (by rfl) 104 (.tmp 1) rfl w.heap.size rfl _ _ (fun _ h => h.1) Tryz.underlying104 rfl (by kernel_rfl)) ⟨M.out.arg, M.out.hh⟩ ?_
  try simp only [List.getElem_toArray, List.getElem_cons_succ, List.getElem_cons_zero, Act.put, List.setIfInBounds_toArray, List.set_cons_zero, List.set_cons_succ]
  refine anyT_take [3] (i := 1) (v := .agg (rowOf .u8 32 (fun i => ys.getD i 0))) rfl (by kernel_rfl) (by kernel_rfl) (by kernel_rfl) (fun _ _ _ h => h) (by kernel_rfl) (row_yields (by rfl) 23 (.tmp 4) rfl (w.heap.size + 1 + 1 + 1) rfl .u8 32 (fun i => ys.getD i 0) _ (fun _ h => h.2) Tryz.underlying23 rfl (by kernel_rfl)) ⟨M.out.arg, M.out.hh⟩ ?_
  try simp only [List.getElem_toArray, List.getElem_cons_succ, List.getElem_cons_zero, Act.put, List.setIfInBounds_toArray, List.set_cons_zero, List.set_cons_succ]
  refine anyT_one (i := 2) (by kernel_rfl) rfl (fun K hK => ?_)
  rw [if_pos (by rfl)]
  try simp only [List.getElem_toArray, List.getElem_cons_succ, List.getElem_cons_zero]
  (refine wp_store_row 104 (.tmp 2) (.tmp 25) rfl (w.heap.size + 1) (rdC (.slice a2 (ys.length - 32) (c - 32)) 0) rfl rfl 104 _ M.out.res (by kernel_rfl) (by rfl) (rd_one _ _ _ _) ?_; have P := Lib.hid (M.out.put (rdC (.slice a2 (ys.length - 32) (c - 32)) 0)); generalize w5.setRow (w.heap.size + 1) (rdC (.slice a2 (ys.length - 32) (c - 32)) 0) = w6 at *)
  refine hK _ _ (fun _ => ⟨P.out.2.1, P.out.2.2.1⟩) ?_
  clear hK K
  try simp only [List.getElem_toArray, List.getElem_cons_succ, List.getElem_cons_zero, Act.put, List.setIfInBounds_toArray, List.set_cons_zero, List.set_cons_succ]
  refine anyT_one (i := 3) (by kernel_rfl) rfl (fun K hK => ?_)
  rw [if_pos (by rfl)]
  try simp only [List.getElem_toArray, List.getElem_cons_succ, List.getElem_cons_zero]
  (refine wp_store_row 23 (.tmp 3) (.tmp 26) rfl (w.heap.size + 1 + 1) (rowOf .u8 32 (fun i => ys.getD i 0)) rfl rfl 23 _ P.out.2.2.2.1 (by rw [rowOf_size]; kernel_rfl) (by rw [rowOf_size, rowOf_size]) (rowOf_one _ _ _) ?_)
  refine hK _ _ (not_mem rfl) ?_
  clear hK K
  try simp only [List.getElem_toArray, List.getElem_cons_succ, List.getElem_cons_zero, Act.put, List.setIfInBounds_toArray, List.set_cons_zero, List.set_cons_succ]
  refine anyT_done (by kernel_rfl) ?_ _
  go_wp2_with (fail)
  have hb : Below w.heap.size w (w6.setRow (w.heap.size + 1 + 1) (rowOf .u8 32 (fun i => ys.getD i 0))) := below_setRow P.out.1 (by omega) _
  refine bodyPost_ret (results_cell2_row rfl _ _ (w.heap.size + 1) (w.heap.size + 1 + 1) 104 23 _ _ (0, 0) (0, 0) _ _ rfl ((setRow_other _ _ _ _ (by omega)).trans P.out.2.2.2.2) Tryz.underlying104 rfl (by kernel_rfl) rfl (setRow_heap _ _ _ _ _ _ P.out.2.2.2.1) Tryz.underlying23 rfl (by rw [rowOf_size]; kernel_rfl)) rfl ?_
  rw [HH.out]
  exact ⟨_, rfl, HYD.out.below hb, HOB.out, hb⟩
theorem rhash2_any (v : Value) (ys : List Int) (e : Option Nat) (he : e ≠ some 0) (w : World) (hy : BytesIn w v ys) : Calls Tryz.prog 124 #[.agg (rdC v (numE e))] w (RhPost v (hashS (ys, e)) w) := by
  rcases numE_ne he with rfl | ⟨x, rfl, hx, hx0⟩
  · by_cases hs : ys.length < 32
    · exact rhash2_short v ys w hy hs
    · exact rhash2_long v ys w hy hs
  · exact rhash2_err v ys x hx0 w hy
end Go.Proofs.YteokgklfljhcaaaGreatDoor
namespace Go.Proofs.YteokgklfljhcaaaGreatDoor
set_option linter.unusedVariables false
set_option linter.unusedSimpArgs false
open Go.RowKit
set_option maxRecDepth 100000
set_option linter.unusedSimpArgs false
set_option linter.unusedVariables false
end Go.Proofs.YteokgklfljhcaaaGreatDoor

/- For every seed, every depth and all acts, KeysOnce returns true and leaves its arguments as they were. Conditions: the two tables of package sha, the table of package frame and the variable errors.errorType read as the program's text lays them, which the card ties to that text. -/
import Derived.Test.YtilpohdidekenaaGreatDoorTie
import Derived.Test.YtilpohdidekenaaGreatDoorCards
import Derived.SevenTiedAt
import Derived.Test.YtilpohdidekenaaGreatDoorKlProof
import Derived.Test.YtilpohdidekenaaGreatDoorKo1
namespace Go.Proofs.YtilpohdidekenaaGreatDoor
set_option linter.unusedVariables false
set_option linter.unusedSimpArgs false
open Go.RowKit Go.Maps Go.Proofs
set_option maxRecDepth 100000
theorem osmall_mod (n : Int) (m : Nat) (hm : 0 < m) (hm2 : m < 1000) : ∃ k : Nat, k < m ∧ wrap64 ((IntKind.u64.wrap n).tmod m) = (k : Int) := by
  have h0 : 0 ≤ IntKind.u64.wrap n := by
    unfold IntKind.wrap
    simp [IntKind.bits, IntKind.signed]
    omega
  have h1 : (IntKind.u64.wrap n).tmod m = IntKind.u64.wrap n % m := Int.tmod_eq_emod_of_nonneg h0
  have h2 := Int.emod_nonneg (IntKind.u64.wrap n) (show (m : Int) ≠ 0 by omega)
  have h3 := Int.emod_lt_of_pos (IntKind.u64.wrap n) (show (0 : Int) < m by omega)
  refine ⟨(IntKind.u64.wrap n % m).toNat, by omega, ?_⟩
  rw [h1, Int.toNat_of_nonneg h2]
  unfold wrap64; omega
theorem okagg_yields {P : Program} {ops : Array Oper} {S : World → Prop} {op : Oper} {a : Act} (hw : Region.wanted op (yielded ops a.tmps) = true) (ty : TypeId) (x : Operand) (ho : op.op = .load ty x)
    (b : Nat) (hx : a.eval x = .pointer (some ⟨b, 0, none⟩)) (cs : Array Value) (d : TypeDesc) (hS : ∀ w, S w → w.heap[b]? = some (.cells cs ty (0, 0)))
    (hu : P.underlying ty = some d) (hd : d.isRow = true) (hi : (P.info? ty).map (·.size) = some cs.size) : YieldsIf P ops S op (.agg cs) a := kagg_yields hw ty x ho b hx cs d hS hu hd hi
theorem wpList_load_par_want {ops : Array Oper} {rest : List Oper} {op : Oper} {a : Act} {w : World} {Q : Exit → Act → World → Prop} (hw : Region.wanted op (yielded ops a.tmps) = true) (ty : TypeId) (x : Operand) (ho : op.op = .load ty x)
    (b : Nat) (hx : a.eval x = .pointer (some ⟨b, 0, none⟩)) (cs : Array Value) (d : TypeDesc) (R : w.heap[b]? = some (.cells cs ty (0, 0)))
    (hu : Tryz.prog.underlying ty = some d) (hd : d.isRow = true) (hi : (Tryz.prog.info? ty).map (·.size) = some cs.size)
    (h : wpList Tryz.prog ops Q rest (a.put op.dst (.agg cs)) w) : wpList Tryz.prog ops Q (op :: rest) a w :=
  BigFrame.wpList_want hw fun _ hK => wp_load_mid ty x ho b 0 hx cs.toList d (fun j v hv => by rw [Nat.zero_add, cell_of_row w b j _ ty _ R]; simpa using hv) hu hd (by rw [hi]; simp) (hK _ _ (by simpa using h))
theorem makeBools : ∀ w : World, (Instr.makeSlice 57 (.int .i64 16) (.int .i64 16)).run Tryz.prog w = .ok (.slice (some ⟨w.heap.size, 0, none⟩) 16 16) (w.alloc (.cells (usedC fun _ => false) 4)) := fun w => by kernel_rfl
theorem cnt_file {st : St} {u m : Nat} (hL : st.L = [⟨nmC.data.toList, (cntX (u + 1)).take m, m⟩]) (hu : u ≤ 1024) : ∀ f, aFind st nmC = (none, some f) → bytesOk f.xs ∧ f.xs.length ≤ 16777216 := fun f hf => by
  unfold aFind at hf
  rw [hL, aget_one] at hf
  cases hc : checkE st.down [nmC] with
  | some x => rw [hc] at hf; cases hf
  | none =>
    rw [hc] at hf
    cases hf
    refine ⟨(cntX_ok _ (by omega)).take _, ?_⟩
    have := cntX_length (u + 1) (by omega)
    simp only [List.length_take]
    omega
set_option maxRecDepth 2000000 in
set_option maxHeartbeats 8000000 in
theorem lonce_any (F : Nat → Int) (depth : Int) (v : Value) (ts : List OT) (w : World) (he : KEnv w.heap.size w) (hv : KActsIn w v ts) :
    Calls Tryz.prog 4 #[.agg (rowOf .u8 32 F), .int .i64 depth, v] w fun e w' => e = .returned (.bool true) ∧ Below w.heap.size w w' := by
  obtain ⟨ta, tc, rfl, htc, htm, hts⟩ := hv
  have htl : (ts.length : Int) ≤ 9223372036854775807 := by unfold maxLen at htm; omega
  have HTS := Lib.hid hts
  obtain ⟨D, hD⟩ : ∃ D : Nat, D = 1 := ⟨_, rfl⟩
  obtain ⟨k, hk, hkn⟩ := osmall_mod depth 5 (by decide) (by decide)
  have HKN := Lib.hid hkn
  have HD1 := Lib.hid hD
  have HDD := Lib.hid (show 1 ≤ D ∧ D ≤ 32 by omega)
  have HKK := Lib.hid (show k ≤ 10 by omega)
  have hki : (k : Int) < 5 := by omega
  obtain ⟨n, hn⟩ : ∃ n, n = 2 ^ k := ⟨_, rfl⟩
  have HN := Lib.hid hn
  have HN16 := Lib.hid (show 1 ≤ n ∧ n ≤ 16 by rw [hn]; exact ⟨Nat.one_le_two_pow, Nat.pow_le_pow_right (n := 2) (j := 4) (by omega) (by omega)⟩)
  have HSHL := Lib.hid (show wrap64 ((2 : Int) ^ k) = (n : Int) by
    have h2 : (2 : Int) ^ k = ((2 ^ k : Nat) : Int) := by simp
    rw [h2, ← hn]; exact IntWalk.wrap64_in _ ⟨by omega, by have := HN16.out; omega⟩)
  obtain ⟨R, hR⟩ : ∃ R, R = rootF (keyL F D k) := ⟨_, rfl⟩
  have HRO := Lib.hid (show ∀ w, Env w → Calls Tryz.prog 7 #[.agg (rowOf .u8 32 F), .agg (parC D k)] w fun e w' => e = .returned (.tuple #[.agg (rowOf .u8 32 R), .nilIface]) ∧ Below w.heap.size w w' from fun w h => by
    have := kroot_any F (D : Int) (k : Int) w h
    rw [show kRootR F (D : Int) (k : Int) = (R, none) by unfold kRootR; rw [if_pos (by have := HDD.out; have := HKK.out; unfold kOk; omega), hR]; rfl] at this
    exact this)
  have HSR := Lib.hid (show ∀ B w' g p st gl u bs, SgX B w' g p st nmC F D k gl u none bs → Calls Tryz.prog 19 #[.pointer (some ⟨g, 0, none⟩)] w' fun e w'' => e = .returned (.agg (rowOf .u8 32 R)) ∧ Below w'.heap.size w' w'' from fun B w' g p st gl u bs h => by rw [hR]; exact ksroot_any h)
  have HOP := Lib.hid (show ∀ B w' p, KEnv B w' → FsX B w' p st0 [] → Calls Tryz.prog 18 #[.pointer (some ⟨p, 0, none⟩), .string { data := #[99, 111, 117, 110, 116] }, .agg (rowOf .u8 32 F), .agg (parC D k)] w' fun e w'' => ∃ g gl, e = .returned (.tuple #[.pointer (some ⟨g, 0, none⟩), .nilIface]) ∧ SgX B w'' g p st0 nmC F D k gl 0 none [] ∧ Below B w' w'' ∧ KeepT w' w'' from fun B w' p h1 h2 => kopen0 (nm := nmC) h2 h1 (by decide) (by decide) F D k HDD.out HKK.out)
  have HNU := Lib.hid (show ∀ w, ErrType w → Calls Tryz.prog 11 #[.iface 87 (.int .i64 22)] w fun e w' => e = .returned (.int .i64 22) ∧ Below w.heap.size w w' from fun w h => num_any (some 22) w h)
  have HNU3 := Lib.hid (show ∀ w, ErrType w → Calls Tryz.prog 11 #[.iface 87 (.int .i64 13)] w fun e w' => e = .returned (.int .i64 13) ∧ Below w.heap.size w w' from fun w h => num_any (some 13) w h)
  have HLF := Lib.hid (show ∀ u text vs w, u < n → BytesIn w vs (sigF F D k u text) → Calls Tryz.prog 9 #[vs] w fun e w' => e = .returned (.tuple #[.int .i64 (u : Int), .nilIface]) ∧ Below w.heap.size w w' from fun u text vs w hu h => kleaf_sig D k u F text HDD.out HKK.out (by rw [← hn]; exact hu) vs w h)
  have HVF := Lib.hid (show ∀ u text vt vs w, u < n → Env w → BytesIn w vt text → BytesIn w vs (sigF F D k u text) → Calls Tryz.prog 14 #[.agg (rowOf .u8 32 R), .agg (parC D k), vt, vs] w fun e w' => e = .returned .nilIface ∧ Below w.heap.size w w' from fun u text vt vs w hu h1 h2 h3 => by
    rw [hR]; exact kverify_sig D k u F text HDD.out HKK.out (by rw [← hn]; exact hu) vt vs w h1 h2 h3)
  have hneq : ∀ w, (binOp .neq 23 (.agg (rowOf .u8 32 R)) (.agg (rowOf .u8 32 R))).run Tryz.prog w = .ok (.bool false) w := fun w => by rw [neq32, eqB_self]; rfl
  have hmk := makeBools
  have HBA := Lib.hid (below_alloc w (.cells (rowOf .u8 32 F) 23))
  have HRA := Lib.hid (RowAt.new w .u8 32 23 F)
  have HSA := Lib.hid (show (w.alloc (.cells (rowOf .u8 32 F) 23)).heap.size = w.heap.size + 1 from shSize_alloc w _)
  have HE0 := Lib.hid he
  clear he hk hkn hD hn hR hts htc htm
  go_enter Tryz.func4, Tryz.ntmps4
  go_upto_region 1 with (fail)
  generalize w.alloc (.cells (rowOf .u8 32 F) 23) = wa at *
  have HB1 := Lib.hid (below_alloc wa (.cells (parC (D : Int) (k : Int)) 25))
  have HP1 := Lib.hid (heap_alloc_new wa (.cells (parC (D : Int) (k : Int)) 25))
  have HS1 := Lib.hid (show (wa.alloc (.cells (parC (D : Int) (k : Int)) 25)).heap.size = wa.heap.size + 1 from shSize_alloc wa _)
  have hz := HKN.out
  simp only [Int.cast_ofNat_Int] at hz
  go_upto_region 2 with (refine wpList_store_row rfl 25 (.tmp 7) (.tmp 26) rfl wa.heap.size #[.int .i64 1, .int .i64 (k : Int)] rfl (by rw [← hz]; rfl) 25 _ (heap_alloc_new _ _) (by kernel_rfl) (by rfl) (by rfl) ?_; rw [World.setRow_alloc_new])
  rw [show #[Value.int .i64 1, .int .i64 (k : Int)] = parC (D : Int) (k : Int) by rw [HD1.out]; rfl]
  clear hz
  generalize wa.alloc (.cells (parC (D : Int) (k : Int)) 25) = w1 at *
  have HBB0 := Lib.hid (show Below w.heap.size w w1 from HBA.out.trans (HB1.out.mono HBA.out.size))
  have SEED := Lib.hid (HRA.out.below HB1.out (by rw [HSA.out]; omega))
  have HLT := Lib.hid (show w.heap.size + 1 < w1.heap.size by have h1 := HS1.out; have h2 := HSA.out; omega)
  rw [HSA.out] at *
  have PAR := HP1
  have HE := Lib.hid (show KEnv w1.heap.size w1 from (HE0.out.below HBB0.out).up (by have := HLT.out; omega))
  clear HB1 HP1 HS1 HBA HRA HSA
  have HBB := Lib.hid (Below.refl w1.heap.size w1)
  go_upto_region 5 with (first
    | (go_at_call 17; (with_reducible refine (new_own _).mono ?_); rintro e w3 ⟨p, rfl, ho, hb⟩; have HO := Lib.hid (FsX.of ho); replace HBB := Lib.hid (HBB.out.trans hb); replace SEED := Lib.hid (SEED.out.below hb SEED.out.lt); replace PAR := Lib.hid ((hb.block _ (heap_lt' PAR.out)).trans PAR.out); clear ho hb)
    | (refine wpList_load_row rfl 23 (.tmp 3) rfl w.heap.size rfl 23 _ (0, 0) _ SEED.out Tryz.underlying23 rfl (by rw [rowOf_size]; kernel_rfl) ?_)
    | (refine wpList_load_row rfl 25 (.tmp 7) rfl (w.heap.size + 1) rfl 25 _ (0, 0) _ PAR.out Tryz.underlying25 rfl (by kernel_rfl) ?_)
    | (go_at_call 7; (with_reducible refine (HRO.out _ (HE.out.below HBB.out).env).mono ?_); rintro e w4 ⟨rfl, hb⟩; replace HO := Lib.hid (HO.out.below hb); replace SEED := Lib.hid (SEED.out.below hb SEED.out.lt); replace PAR := Lib.hid ((hb.block _ (heap_lt' PAR.out)).trans PAR.out); replace HBB := Lib.hid (HBB.out.trans (hb.mono HBB.out.size)); clear hb)
    | (refine wpList_store_row rfl 23 (.tmp 9) (.tmp 32) rfl w4.heap.size (rowOf .u8 32 R) rfl rfl 23 _ (heap_alloc_new _ _) (by rw [rowOf_size]; kernel_rfl) (by rw [rowOf_size]; rfl) (rowOf_one _ _ _) ?_; rw [World.setRow_alloc_new]; have HAL := Lib.hid (below_alloc w4 (.cells (rowOf .u8 32 R) 23)); have ROOT := Lib.hid (RowAt.new w4 .u8 32 23 R); replace HO := Lib.hid (HO.out.below HAL.out); replace SEED := Lib.hid (SEED.out.below HAL.out SEED.out.lt); replace PAR := Lib.hid ((HAL.out.block _ (heap_lt' PAR.out)).trans PAR.out); replace HBB := Lib.hid (HBB.out.trans (HAL.out.mono HBB.out.size)); clear HAL; generalize w4.heap.size = h at *; generalize w4.alloc (.cells (rowOf .u8 32 R) 23) = w5 at *)
    | (go_at_call 18; (with_reducible refine (HOP.out w1.heap.size _ p (HE.out.below HBB.out) HO.out).mono ?_); rintro e w6 ⟨g, gl, rfl, hm, hb, ht⟩; have M := Lib.hid hm; replace SEED := Lib.hid (ht _ _ _ SEED.out (by decide) (by decide)); replace ROOT := Lib.hid (ht _ _ _ ROOT.out (by decide) (by decide)); replace PAR := Lib.hid (ht _ _ _ PAR.out (by decide) (by decide)); replace HBB := Lib.hid (HBB.out.trans hb); clear hm hb ht HO))
  refine wp_region_T (fun w' => RowAt w' h .u8 32 23 R) [12, 13] (by kernel_rfl) ?_
  have HDR := Lib.hid ((Below.refl w6.heap.size w6).drew)
  replace M := Lib.hid (M.out.below HDR.out)
  replace SEED := Lib.hid (RowAt.below SEED.out HDR.out (RowAt.lt SEED.out))
  replace ROOT := Lib.hid (RowAt.below ROOT.out HDR.out (RowAt.lt ROOT.out))
  replace PAR := Lib.hid ((HDR.out.block _ (heap_lt' PAR.out)).trans PAR.out)
  replace HBB := Lib.hid (HBB.out.trans (HDR.out.mono HBB.out.size))
  clear HDR
  generalize w6.drew = w7 at *
  refine anyT_takeY (i := 0) (v := .nilIface) rfl (by kernel_rfl) (by kernel_rfl) (by kernel_rfl) (fun _ _ _ h => h) (by kernel_rfl) (Or.inl ⟨by rfl, by intro w; go_simp⟩) ?_
  try simp only [List.getElem_toArray, List.getElem_cons_succ, List.getElem_cons_zero, Act.put, List.setIfInBounds_toArray, List.set_cons_zero, List.set_cons_succ]
  refine anyT_takeY (i := 1) (v := .bool false) rfl (by kernel_rfl) (by kernel_rfl) (by kernel_rfl) (fun _ _ _ h => h) (by kernel_rfl) (Or.inl ⟨by rfl, by intro w; go_simp⟩) ?_
  try simp only [List.getElem_toArray, List.getElem_cons_succ, List.getElem_cons_zero, Act.put, List.setIfInBounds_toArray, List.set_cons_zero, List.set_cons_succ]
  refine anyT_takeY (i := 2) (v := .bool false) rfl (by kernel_rfl) (by kernel_rfl) (by kernel_rfl) (fun _ _ _ h => h) (by kernel_rfl) (Or.inl ⟨by rfl, by intro w; go_simp⟩) ?_
  try simp only [List.getElem_toArray, List.getElem_cons_succ, List.getElem_cons_zero, Act.put, List.setIfInBounds_toArray, List.set_cons_zero, List.set_cons_succ]
  refine anyT_takeY (i := 3) (v := .nilIface) rfl (by kernel_rfl) (by kernel_rfl) (by kernel_rfl) (fun _ _ _ h => h) (by kernel_rfl) (Or.inl ⟨by rfl, by intro w; go_simp⟩) ?_
  try simp only [List.getElem_toArray, List.getElem_cons_succ, List.getElem_cons_zero, Act.put, List.setIfInBounds_toArray, List.set_cons_zero, List.set_cons_succ]
  refine anyT_takeY (i := 4) (v := .bool false) rfl (by kernel_rfl) (by kernel_rfl) (by kernel_rfl) (fun _ _ _ h => h) (by kernel_rfl) (Or.inl ⟨by rfl, by intro w; go_simp⟩) ?_
  try simp only [List.getElem_toArray, List.getElem_cons_succ, List.getElem_cons_zero, Act.put, List.setIfInBounds_toArray, List.set_cons_zero, List.set_cons_succ]
  refine anyT_takeY (i := 5) (v := .bool false) rfl (by kernel_rfl) (by kernel_rfl) (by kernel_rfl) (fun _ _ _ h => h) (by kernel_rfl) (Or.inl ⟨by rfl, by intro w; go_simp⟩) ?_
  try simp only [List.getElem_toArray, List.getElem_cons_succ, List.getElem_cons_zero, Act.put, List.setIfInBounds_toArray, List.set_cons_zero, List.set_cons_succ]
  refine anyT_takeY (i := 6) (v := .bool false) rfl (by kernel_rfl) (by kernel_rfl) (by kernel_rfl) (fun _ _ _ h => h) (by kernel_rfl) (Or.inl ⟨by rfl, by intro w; go_simp⟩) ?_
  try simp only [List.getElem_toArray, List.getElem_cons_succ, List.getElem_cons_zero, Act.put, List.setIfInBounds_toArray, List.set_cons_zero, List.set_cons_succ]
  refine anyT_takeY (i := 7) (v := .pointer (some ⟨g, 0, none⟩)) rfl (by kernel_rfl) (by kernel_rfl) (by kernel_rfl) (fun _ _ _ h => h) (by kernel_rfl) (Or.inl ⟨by rfl, by intro w; go_simp⟩) ?_
  try simp only [List.getElem_toArray, List.getElem_cons_succ, List.getElem_cons_zero, Act.put, List.setIfInBounds_toArray, List.set_cons_zero, List.set_cons_succ]
  refine anyT_takeY (i := 8) (v := .bool false) rfl (by kernel_rfl) (by kernel_rfl) (by kernel_rfl) (fun _ _ _ h => h) (by kernel_rfl) (Or.inl ⟨by rfl, by intro w; go_simp⟩) ?_
  try simp only [List.getElem_toArray, List.getElem_cons_succ, List.getElem_cons_zero, Act.put, List.setIfInBounds_toArray, List.set_cons_zero, List.set_cons_succ]
  refine anyT_takeY (i := 9) (v := .bool false) rfl (by kernel_rfl) (by kernel_rfl) (by kernel_rfl) (fun _ _ _ h => h) (by kernel_rfl) (Or.inl ⟨by rfl, by intro w; go_simp⟩) ?_
  try simp only [List.getElem_toArray, List.getElem_cons_succ, List.getElem_cons_zero, Act.put, List.setIfInBounds_toArray, List.set_cons_zero, List.set_cons_succ]
  refine anyT_takeY (i := 10) (v := .bool false) rfl (by kernel_rfl) (by kernel_rfl) (by kernel_rfl) (fun _ _ _ h => h) (by kernel_rfl) (Or.inl ⟨by rfl, by intro w; go_simp⟩) ?_
  try simp only [List.getElem_toArray, List.getElem_cons_succ, List.getElem_cons_zero, Act.put, List.setIfInBounds_toArray, List.set_cons_zero, List.set_cons_succ]
  refine anyT_takeY (i := 11) (v := .pointer (some ⟨g, 0, none⟩)) rfl (by kernel_rfl) (by kernel_rfl) (by kernel_rfl) (fun _ _ _ h => h) (by kernel_rfl) (Or.inl ⟨by rfl, by intro w; go_simp⟩) ?_
  try simp only [List.getElem_toArray, List.getElem_cons_succ, List.getElem_cons_zero, Act.put, List.setIfInBounds_toArray, List.set_cons_zero, List.set_cons_succ]
  refine anyT_take [14, 15] (i := 13) (v := .agg (rowOf .u8 32 R)) rfl (by kernel_rfl) (by kernel_rfl) (by kernel_rfl) (fun _ _ _ h => h) (by kernel_rfl) (row_yields (by rfl) 23 (.tmp 9) rfl h rfl .u8 32 R _ (fun _ h => h) Tryz.underlying23 rfl (by kernel_rfl)) ROOT.out ?_
  try simp only [List.getElem_toArray, List.getElem_cons_succ, List.getElem_cons_zero, Act.put, List.setIfInBounds_toArray, List.set_cons_zero, List.set_cons_succ]
  refine anyT_one (i := 12) (by kernel_rfl) rfl (fun K hK => ?_)
  rw [if_pos (by rfl)]
  try simp only [List.getElem_toArray, List.getElem_cons_succ, List.getElem_cons_zero]
  (go_simp; refine (HSR.out _ _ _ _ _ _ _ _ M.out).mono ?_; rintro e w8 ⟨rfl, hb⟩; replace M := Lib.hid (M.out.below hb); replace SEED := Lib.hid (RowAt.below SEED.out hb (RowAt.lt SEED.out)); replace ROOT := Lib.hid (RowAt.below ROOT.out hb (RowAt.lt ROOT.out)); replace PAR := Lib.hid ((hb.block _ (heap_lt' PAR.out)).trans PAR.out); replace HBB := Lib.hid (HBB.out.trans (hb.mono HBB.out.size)); clear hb)
  refine hK _ _ (fun _ => ROOT.out) ?_
  clear hK K
  try simp only [List.getElem_toArray, List.getElem_cons_succ, List.getElem_cons_zero, Act.put, List.setIfInBounds_toArray, List.set_cons_zero, List.set_cons_succ]
  refine anyT_takeY (i := 14) (v := .bool false) rfl (by kernel_rfl) (by kernel_rfl) (by kernel_rfl) (fun _ _ _ h => h) (by kernel_rfl) (Or.inl ⟨by rfl, by intro w; go_simp⟩) ?_
  try simp only [List.getElem_toArray, List.getElem_cons_succ, List.getElem_cons_zero, Act.put, List.setIfInBounds_toArray, List.set_cons_zero, List.set_cons_succ]
  refine anyT_takeY (i := 15) (v := .bool false) rfl (by kernel_rfl) (by kernel_rfl) (by kernel_rfl) (fun _ _ _ h => h) (by kernel_rfl) (Or.inl ⟨by rfl, by intro w; go_simp⟩) ?_
  try simp only [List.getElem_toArray, List.getElem_cons_succ, List.getElem_cons_zero, Act.put, List.setIfInBounds_toArray, List.set_cons_zero, List.set_cons_succ]
  refine anyT_done (by kernel_rfl) ?_ _
  have HAL := Lib.hid (below_alloc w8 (.cells (usedC fun _ => false) 4))
  have M9 := Lib.hid (show OnM w w1 (w8.alloc (.cells (usedC fun _ => false) 4)) p h w8.heap.size F R D k g gl st0 0 none (fun _ => false) [] from
    ⟨M.out.below HAL.out, RowAt.below SEED.out HAL.out (RowAt.lt SEED.out), (HAL.out.block _ (heap_lt' PAR.out)).trans PAR.out, RowAt.below ROOT.out HAL.out (RowAt.lt ROOT.out), heap_alloc_new _ _, HBB.out.trans (HAL.out.mono HBB.out.size), HLT.out⟩)
  have HBW := Lib.hid (show w1.heap.size ≤ w8.heap.size from M.out.fs.le)
  clear M SEED PAR ROOT HBB HAL
  go_wp2_with (fail)
  go_loopw [11, 14] (fun s i wr => ∃ (j u g gl : Nat) (st : St) (U : Nat → Bool), j ≤ ts.length ∧ j ≤ 40 ∧ s = .pointer (some ⟨g, 0, none⟩) ∧ i = .int .i64 (j : Int) ∧ Hid (OnM w w1 wr p h w8.heap.size F R D k g gl st u none U []) ∧ Hid (Lives st u j) ∧ Hid (∀ q, u ≤ q → q < 16 → U q = false)) (fun _ i _ => 40 - (intOf i).toNat)
  case atStart => exact ⟨0, 0, g, gl, st0, _, Nat.zero_le _, Nat.zero_le _, rfl, rfl, M9, Lib.hid ⟨⟨rfl, .inl ⟨rfl, rfl⟩⟩, Nat.le_refl _⟩, Lib.hid fun _ _ _ => rfl⟩
  case round =>
    clear M9
    obtain ⟨j, u, g2, gl2, st, U, hj, hj4, rfl, rfl, M, HL, HU⟩ := hrel
    by_cases hlt : j < ts.length ∧ j < 40
    · obtain ⟨hlt1, hlt2⟩ := hlt
      obtain ⟨t, ht⟩ : ∃ t, ts[j]? = some t := ⟨ts[j], by simp [hlt1]⟩
      obtain ⟨ab, ao, rfl, hab, hall⟩ := HTS.out.resolve_left (fun e => by rw [e] at hlt1; simp at hlt1)
      have hat := hall j t ht
      obtain ⟨kd, nn, dv, data, kv, keep⟩ := t
      obtain ⟨da, dc, hdv, -⟩ := id hat.ok.data
      obtain ⟨ka, kc, hkv, -⟩ := id hat.ok.keep
      simp only at hdv hkv
      subst hdv hkv
      have HOK := Lib.hid hat.ok
      have HBW1 := Lib.hid (show Below w.heap.size w wr from HBB0.out.trans (M.out.below.mono HBB0.out.size))
      have HRG := Lib.hid (show wr.rangeAt ab (ao + j * 4) [.int .i64 kd, .int .i64 nn, .slice da data.length dc, .slice ka keep.length kc] from fun q x hq => (HBW1.out.cell (p := ⟨ab, ao + j * 4 + q, none⟩) hab).trans (hat.cells q x hq))
      obtain ⟨q, hq, hqn⟩ := osmall_mod kd 6 (by decide) (by decide)
      have HQN := Lib.hid hqn
      have hj1 : (j : Int) < (ts.length : Int) := by omega
      have hj2 : (j : Int) < 40 := by omega
      clear hat hall hqn ht hab
      go_upto_region 12 with (first
        | (refine wpList_load_mid rfl 60 (.tmp 70) rfl ab (ao + j * 4) rfl _ _ HRG.out Tryz.underlying60 rfl (by kernel_rfl) ?_)
        | (refine wpList_store_row rfl 60 (.tmp 15) (.tmp 71) rfl wr.heap.size #[.int .i64 kd, .int .i64 nn, .slice da data.length dc, .slice ka keep.length kc] rfl rfl 60 _ (heap_alloc_new _ _) (by kernel_rfl) (by rfl) (by rfl) ?_; rw [World.setRow_alloc_new]))
      have HAC := Lib.hid (below_alloc wr (.cells #[.int .i64 kd, .int .i64 nn, .slice da data.length dc, .slice ka keep.length kc] 60))
      replace M := Lib.hid (M.out.call HAC.out)
      have ACT := Lib.hid (heap_alloc_new wr (.cells #[.int .i64 kd, .int .i64 nn, .slice da data.length dc, .slice ka keep.length kc] 60))
      replace HBW1 := Lib.hid (HBW1.out.trans (HAC.out.mono HBW1.out.size))
      clear HAC HRG
      generalize wr.alloc (.cells #[.int .i64 kd, .int .i64 nn, .slice da data.length dc, .slice ka keep.length kc] 60) = w2 at *
      generalize wr.heap.size = a at *
      obtain ⟨q0, q1, q2, -⟩ := oact_cells ACT.out
      have hz := HQN.out
      simp only [Int.cast_ofNat_Int] at hz
      by_cases hq2 : 2 < q
      · have hd : decide ((2 : Int) < (q : Int)) = true := by simp; omega
        obtain ⟨r, hr, hrn⟩ := osmall_mod nn 6 (by decide) (by decide)
        simp only [Int.cast_ofNat_Int] at hrn
        have HR6 := Lib.hid hr
        clear hr hq2 q2
        go_wp2_with (go_at_call 20; (with_reducible refine (arm_x M.out.m.fs (r : Int) (by have := HR6.out; omega)).mono ?_); rintro e w3 ⟨rfl, hx, hb, ht⟩; replace M := Lib.hid (M.out.turn (M.out.m.call hx hb ht) hb (KeepS.of ht)); clear hx hb ht q0 q1)
        go_roundw
        case rel => exact ⟨j + 1, u, g2, gl2, _, U, by omega, by omega, rfl, by go_num, M, Lib.hid (HL.out.arm r), HU⟩
        case measure => simp [intOf]; omega
      · have hd : decide ((2 : Int) < (q : Int)) = false := by simp; omega
        clear hq2 q1
        replace M := Lib.hid (M.out.arg HOK.out.data HBW1.out)
        have HU2 := Lib.hid (show u ≤ 2 ^ k from M.out.m.uOk)
        have HSTP := Lib.hid HL.out.steps
        by_cases hun : u = 2 ^ k
        · have HSPN := Lib.hid (show ∀ w' st bs v, SgX w1.heap.size w' g2 p st nmC F D k gl2 u none bs → Calls Tryz.prog 21 #[.pointer (some ⟨g2, 0, none⟩), v] w' fun e w'' => ∃ v', e = .returned (.tuple #[v', .iface 87 (.int .i64 22)]) ∧ SgX w1.heap.size w'' g2 p st nmC F D k gl2 u none ((v', []) :: bs) ∧ Below w1.heap.size w' w'' ∧ KeepS w' w'' from fun w' st bs v h => by
            rw [hun] at h ⊢
            exact ksign_spent h v)
          clear hun
          go_wp2_with (first
            | (go_at_call 21; (with_reducible refine (HSPN.out _ _ _ _ M.out.m).mono ?_); rintro e w3 ⟨vs, rfl, hm, hb, hk⟩; replace M := Lib.hid (M.out.turn hm hb hk); clear hm hb hk q0 q2)
            | (go_at_call 11; (with_reducible refine (HNU.out _ M.out.m.env.err).mono ?_); rintro e w4 ⟨rfl, hb⟩; replace M := Lib.hid (M.out.call hb); clear hb))
          go_roundw
          case rel => exact ⟨j + 1, u, g2, gl2, st, U, by omega, by omega, rfl, by go_num, Lib.hid M.out.bare, Lib.hid (HL.out.up (by omega)), HU⟩
          case measure => simp [intOf]; omega
        · have hult : u < 2 ^ k := by have := HU2.out; omega
          have hk10 := pow10 HKK.out
          rcases count_all (nm := nmC) (u := u) (by decide) (by omega) HL.out.inv with ⟨st1, hc, hci, hst1, -⟩ | ⟨-, st1, hc, hbr, hst1⟩
          · have HUN := Lib.hid (show u < n by rw [HN.out]; exact hult)
            have hu16 : u < 16 := by have := HUN.out; have := HN16.out; omega
            have HSG := Lib.hid (show ∀ w' bs v, (v, data) ∈ bs → SgX w1.heap.size w' g2 p st nmC F D k gl2 u none bs → Calls Tryz.prog 21 #[.pointer (some ⟨g2, 0, none⟩), v] w' fun e w'' => ∃ v', e = .returned (.tuple #[v', .nilIface]) ∧ SgX w1.heap.size w'' g2 p st1 nmC F D k gl2 (u + 1) none ((v', sigF F D k u data) :: bs) ∧ Below w1.heap.size w' w'' ∧ KeepS w' w'' from fun w' bs v hm h => ksign_ok h v data hm hult st1 (by have := HSTP.out; omega) hc)
            have HL1 := Lib.hid (show Lives st1 (u + 1) (j + 1) from ⟨hci, by have := HSTP.out; omega⟩)
            clear hc hci hst1 hult hun hk10
            go_upto_region 24 with (go_at_call 21; (with_reducible refine (HSG.out _ _ _ (List.mem_cons_self ..) M.out.m).mono ?_); rintro e w3 ⟨vs, rfl, hm, hb, hk⟩; replace M := Lib.hid (M.out.turn hm hb hk); replace ACT := Lib.hid (hk _ _ _ ACT.out (by decide) (by decide) (by decide)); clear hm hb hk q0 q2)
            go_upto_region 25 with (go_at_call 9; (with_reducible refine (HLF.out u data vs _ HUN.out (M.out.m.fs.bytes (b := (vs, _)) (List.mem_cons_self ..))).mono ?_); rintro e w4 ⟨rfl, hb⟩; replace M := Lib.hid (M.out.call hb); replace ACT := Lib.hid ((hb.block _ (heap_lt' ACT.out)).trans ACT.out); clear hb)
            have c1 := M.out.depth
            have c2 := M.out.cell u hu16
            rw [HU.out u (Nat.le_refl _) hu16] at c2
            obtain ⟨-, -, q2, -⟩ := oact_cells ACT.out
            have hkI : (0 : Int) ≤ k := by omega
            have hshl := HSHL.out
            have hd1 : decide ((u : Int) < 0) = false := by simp
            have hd2 : decide ((n : Int) ≤ (u : Int)) = false := by have := HUN.out; simp; omega
            have hd3 : decide (n ≤ u) = false := by have := HUN.out; simp; omega
            have hu16I : (u : Int) < 16 := by omega
            go_upto_region 27 with (first
              | (refine wpList_load_row_want rfl 23 (.tmp 9) rfl h rfl .u8 32 R _ M.out.root Tryz.underlying23 rfl (by kernel_rfl) ?_)
              | (refine wpList_load_par_want rfl 25 (.tmp 7) rfl (w.heap.size + 1) rfl (parC (D : Int) (k : Int)) _ M.out.par Tryz.underlying25 rfl (by kernel_rfl) ?_)
              | (go_at_call 14; (with_reducible refine (HVF.out u data _ vs _ HUN.out M.out.m.env.env (M.out.m.fs.bytes (b := (_, data)) (List.mem_cons_of_mem _ (List.mem_cons_self ..))) (M.out.m.fs.bytes (b := (vs, _)) (List.mem_cons_self ..))).mono ?_); rintro e w5 ⟨rfl, hb⟩; replace M := Lib.hid (M.out.call hb); clear hb c1 c2 q2))
            have c2 := M.out.cell u hu16
            have fr := M.out.free u
            replace M := Lib.hid (M.out.bare.mark HBW.out u)
            go_wp2_with (fail)
            go_roundw
            case rel => exact ⟨j + 1, u + 1, g2, gl2, st1, _, by omega, by omega, rfl, by go_num, M, HL1, Lib.hid fun q hq hq2 => by have := HU.out q (by omega) hq2; show (if q = u then true else U q) = false; rw [if_neg (by omega), this]⟩
            case measure => simp [intOf]; omega
          · obtain ⟨m, hm1, hm2, hL, hdn, har, hst⟩ := start_brk hbr keep
            obtain ⟨v3, st3, hcs, hv, hci, hsp3, -⟩ := counted_start (k := 2 ^ k) (nm := nmC) (by decide) hk10 hult hdn har hm1 hm2 hL
            have HSG := Lib.hid (show ∀ w' bs v, SgX w1.heap.size w' g2 p st nmC F D k gl2 u none bs → Calls Tryz.prog 21 #[.pointer (some ⟨g2, 0, none⟩), v] w' fun e w'' => ∃ v', e = .returned (.tuple #[v', .iface 87 (.int .i64 13)]) ∧ SgX w1.heap.size w'' g2 p st1 nmC F D k gl2 u (some 13) ((v', []) :: bs) ∧ Below w1.heap.size w' w'' ∧ KeepS w' w'' from fun w' bs v h => ksign_err h v hult 13 st1 (by have := HSTP.out; omega) hc)
            have HDN := Lib.hid (show ∀ w' bs, FsX w1.heap.size w' p st1 bs → Calls Tryz.prog 22 #[.pointer (some ⟨p, 0, none⟩)] w' fun e w'' => e = .returned (.bool true) ∧ w' = w'' from fun w' bs h => by
              have h2 := down_own h.own
              rw [hbr.1] at h2
              exact h2)
            have HST := Lib.hid (show ∀ w' bs, Below w.heap.size w w' → FsX w1.heap.size w' p st1 bs → Calls Tryz.prog 23 #[.pointer (some ⟨p, 0, none⟩), .slice ka keep.length kc] w' fun r w'' => r = .returned (.tuple #[]) ∧ FsX w1.heap.size w'' p (aStart st1 keep) bs ∧ Below w1.heap.size w' w'' ∧ KeepT w' w'' from fun w' bs hb h => start_x h _ keep (onums_up HOK.out.keep hb (by have := HLT.out; omega)))
            have HO3 := Lib.hid (show ∀ w' bs, KEnv w1.heap.size w' → FsX w1.heap.size w' p (aStart st1 keep) bs → Calls Tryz.prog 18 #[.pointer (some ⟨p, 0, none⟩), .string { data := #[99, 111, 117, 110, 116] }, .agg (rowOf .u8 32 F), .agg (parC D k)] w' fun e w'' => ∃ g gl, e = .returned (.tuple #[.pointer (some ⟨g, 0, none⟩), .nilIface]) ∧ SgX w1.heap.size w'' g p st3 nmC F D k gl v3 none bs ∧ Below w1.heap.size w' w'' ∧ KeepT w' w'' from fun w' bs h1 h2 =>
              kopen_ok (nm := nmC) h2 h1 (by decide) F D k v3 HDD.out HKK.out (by omega) st3 fun w he h => kcounted_of h he (by decide) (2 ^ k) (by omega) (by have := HSTP.out; omega) (cnt_file hL (by omega)) v3 hcs)
            have HL1 := Lib.hid (show Lives st3 v3 (j + 1) from ⟨hci, by have := HSTP.out; omega⟩)
            have HV3 := Lib.hid (show u ≤ v3 by omega)
            clear hc hbr hst1 hult hun hk10 hm1 hm2 hL hdn har hst hcs hv hci hsp3
            go_upto_region 19 with (first
              | (go_at_call 21; (with_reducible refine (HSG.out _ _ _ M.out.m).mono ?_); rintro e w3 ⟨vs, rfl, hm, hb, hk⟩; replace M := Lib.hid (M.out.turn hm hb hk); replace ACT := Lib.hid (hk _ _ _ ACT.out (by decide) (by decide) (by decide)); clear hm hb hk q0 q2)
              | (go_at_call 11; (with_reducible refine (HNU3.out _ M.out.m.env.err).mono ?_); rintro e w4 ⟨rfl, hb⟩; replace M := Lib.hid (M.out.call hb); replace ACT := Lib.hid ((hb.block _ (heap_lt' ACT.out)).trans ACT.out); clear hb)
              | (go_at_call 22; (with_reducible refine (HDN.out _ _ M.out.m.fs).mono ?_); rintro e w5 ⟨rfl, rfl⟩))
            obtain ⟨-, -, -, q3⟩ := oact_cells ACT.out
            go_wp2_with (first
              | (go_at_call 23; (with_reducible refine (HST.out _ _ (HBB0.out.trans (M.out.below.mono HBB0.out.size)) M.out.m.fs).mono ?_); rintro e w6 ⟨rfl, hx, hb, ht⟩; replace M := Lib.hid (M.out.turn (M.out.m.call hx hb ht) hb (KeepS.of ht)); clear hx hb ht q3)
              | (refine wpList_load_row rfl 23 (.tmp 3) rfl w.heap.size rfl 23 _ (0, 0) _ M.out.seed Tryz.underlying23 rfl (by rw [rowOf_size]; kernel_rfl) ?_)
              | (refine wpList_load_row rfl 25 (.tmp 7) rfl (w.heap.size + 1) rfl 25 _ (0, 0) _ M.out.par Tryz.underlying25 rfl (by kernel_rfl) ?_)
              | (go_at_call 18; (with_reducible refine (HO3.out _ _ M.out.m.env M.out.m.fs).mono ?_); rintro e w7 ⟨g3, gl3, rfl, hm, hb, ht⟩; replace M := Lib.hid (M.out.turn hm hb (KeepS.of ht)); clear hm hb ht))
            go_roundw
            case rel => exact ⟨j + 1, v3, g3, gl3, st3, U, by omega, by omega, rfl, by go_num, Lib.hid M.out.bare, HL1, Lib.hid fun q hq hq2 => HU.out q (by have := HV3.out; omega) hq2⟩
            case measure => simp [intOf]; omega
    · rcases (by omega : ¬ j < ts.length ∨ (j < ts.length ∧ ¬ j < 40)) with h1 | ⟨h1, h2⟩
      · have hj1 : ¬ (j : Int) < (ts.length : Int) := by omega
        clear hlt h1
        go_wp2_with (go_at_call 16; (with_reducible refine (ksure_any _ (M.out.m.env.up M.out.m.fs.le)).mono ?_); rintro e w11 ⟨rfl, hb⟩; replace M := Lib.hid (M.out.call hb); clear hb)
        go_ret
        exact ⟨rfl, HBB0.out.trans (M.out.below.mono HBB0.out.size)⟩
      · have hj1 : (j : Int) < (ts.length : Int) := by omega
        have hj2 : ¬ (j : Int) < 40 := by omega
        clear hlt h1 h2
        go_wp2_with (go_at_call 16; (with_reducible refine (ksure_any _ (M.out.m.env.up M.out.m.fs.le)).mono ?_); rintro e w11 ⟨rfl, hb⟩; replace M := Lib.hid (M.out.call hb); clear hb)
        go_ret
        exact ⟨rfl, HBB0.out.trans (M.out.below.mono HBB0.out.size)⟩
end Go.Proofs.YtilpohdidekenaaGreatDoor
namespace Go.Proofs.YtilpohdidekenaaGreatDoor
set_option linter.unusedVariables false
set_option linter.unusedSimpArgs false
open Go.ChangeShapes Go.WideShapes Go.ChangeAt Go.RowKit
set_option maxRecDepth 100000
theorem konce_lifted (os : Os) (started : os.Started) (H : Type) (enc : TypeId × Value → H) :
    ReturnsInHanded {} Tryz.checked os 4 .any (fun w args => (Rows.keysOnceSpec.pre enc Tryz.prog Tryz.f4 [] false w args ∧ laidMetH Tryz.prog laidKeys w) ∧ sizedMet enc Tryz.prog Tryz.f4 (OpenSpec.ofChange Rows.keysOnceSpec) false w args)
      (Rows.keysOnceSpec.post enc Tryz.prog Tryz.f4 false true false false) := by
  refine returnsInHanded_of_change_and (C := Tryz.checked) (X := fun w _ => laidMetH Tryz.prog laidKeys w) (fun _ _ _ hh h => h.of_heap hh) doorOwn started (by kernel_rfl) Tryz.func4
    (ChangeSpec.witness_shaped (enc := enc) (C := Tryz.checked) (os := os) (X := fun w _ => laidMetH Tryz.prog laidKeys w) false (World.doorLaid Tryz.prog 400 os) #[.agg (Array.replicate 32 (.int .u8 0)), .int .i64 0, .slice none 0 0] 8 rfl (World.shaped_of_RefB (by kernel_rfl) (by kernel_rfl)) (by kernel_rfl) (by kernel_rfl) (by kernel_rfl) (met_keys os _)) ?_
  intro W base args ds gs before hval0 hW _ _ hL _
  have hval : ∀ (j : Nat) t v, Tryz.f4.params[j]? = some t → args[j]? = some v → Value.okWide Tryz.prog W .any base t v := hval0
  have hW' := hW
  obtain ⟨p, q, hA0, hV, rfl, hfz, hnd⟩ := hW
  have hA : DataW.TrodAll enc Tryz.prog W 0 (fun _ => true) true Tryz.f4.params.toList args.toList ds p := hA0
  rw [Tryz.params4] at hA hval
  obtain ⟨v0, vs0, d0, ds0, p0, q0, hargs, rfl, rfl, h0, r0⟩ := trodAll_cons hA
  obtain ⟨v1, vs1, d1, ds1, p1, q1, rfl, rfl, rfl, h1, r1⟩ := trodAll_cons r0
  obtain ⟨v2, vs2, d2, ds2, p2, q2, rfl, rfl, rfl, h2, r2⟩ := trodAll_cons r1
  obtain ⟨rfl, rfl, rfl⟩ := trodAll_nil r2
  obtain rfl : args = #[v0, v1, v2] := by cases args; simp_all
  obtain ⟨rfl, rfl⟩ := trodVars_none hV
  obtain ⟨cs0, rfl, -⟩ := okWide_arr Tryz.underlying23 (hval 0 23 v0 rfl rfl)
  have k0 := h0
  have lt0 : ∀ x ∈ p0, x.block < W.heap.size := by obtain ⟨m, hm⟩ := k0; exact DataW.trod_lt m _ _ _ hm
  obtain ⟨F0, rfl, wf0⟩ := arr_arg Tryz.underlying23 Tryz.underlying5 (by kernel_rfl) (by kernel_rfl) h0
  obtain ⟨a1, rfl, rfl, rfl, w1⟩ := open_int Tryz.underlying3 (hval 1 3 v1 rfl rfl) h1
  have b1 := bounds_i64 w1
  obtain ⟨a2, len2, cap2, rfl⟩ := okWide_slice Tryz.underlying49 (hval 2 49 v2 rfl rfl)
  have k2 := h2
  have lt2 : ∀ x ∈ p2, x.block < W.heap.size := by obtain ⟨m, hm⟩ := k2; exact DataW.trod_lt m _ _ _ hm
  obtain ⟨xs2, hxl2, hx2⟩ := kacts_arg h2
  clear hA0 hval0
  refine (lonce_any F0 a1 _ xs2 W (keys_of_laid hL) hx2).mono fun e W' ⟨he, bel⟩ => ?_
  subst he
  exact ⟨_, rfl, _, _, _, [], _, [], hW', trodAll_mk1 (shut_bool Tryz.underlying4 _), (trodAll_cons_mk (Below.trod doorLaidOut (by kernel_rfl) (of_decide_eq_true (by kernel_rfl)) k0 bel lt0) (trodAll_cons_mk (shut_int Tryz.underlying3 w1) (trodAll_cons_mk (Below.trod doorLaidOut (by kernel_rfl) (of_decide_eq_true (by kernel_rfl)) k2 bel lt2) trodAll_mk0))), rfl, bel.frame _, fun h => by cases h⟩
theorem konce_holds : Rows.KeysOnceSaid :=
  OpenClaim.holds_of_wide 4 Tryz.f4 rfl rfl rfl rfl rfl rfl rfl ⟨rfl, rfl, rfl, rfl, rfl⟩ rfl rfl rfl rfl rfl (by kernel_rfl) Tryz.func4 (by kernel_rfl)
    (of_decide_eq_true (by kernel_rfl)) (by unfold Func.isWrapper; first | (rw [if_pos (by decide +kernel)]; kernel_rfl) | (rw [if_neg (by decide +kernel)]; exact ⟨rfl, rfl⟩))
    (fun os started H enc _ => konce_lifted os started H enc)
theorem konce_card : Rows.KeysOnceCardSaid :=
  Claim7.holds_tied_plain_at .later [] [.handle, .data, .data, .data] true _ true
    konce_holds (fun _ h => by cases h) (by kernel_rfl) (fun _ h => by cases h) keysOnce_row_tie rfl ⟨rfl, rfl⟩ (by kernel_rfl) rfl
    (fun f fn hf hfn => by
      obtain rfl : f = 4 := Option.some.inj ((show Tryz.prog.funcNamed "isthmus/isthmuslaw06.KeysOnce" = some 4 by kernel_rfl).symm.trans hf) |>.symm
      obtain rfl : fn = Tryz.f4 := (Option.some.inj (Tryz.func4.symm.trans hfn)).symm
      exact ⟨by kernel_rfl, fun j t ht => by
        rw [Tryz.params4] at ht
        have hm : t ∈ [23, 3, 49] := by simpa using Array.mem_of_getElem? ht
        have hall : ([23, 3, 49].all fun u => !Tryz.prog.wantsStandIn u) = true := by kernel_rfl
        exact (show Tryz.prog.wantsStandIn t = false by simpa using List.all_eq_true.1 hall t hm)⟩)
    (by kernel_rfl)
#print axioms konce_card
end Go.Proofs.YtilpohdidekenaaGreatDoor

/- Part 37 of the proof. -/
import Derived.Test.YtilpohdidekenaaGreatDoorKl36
namespace Go.Proofs.YtilpohdidekenaaGreatDoor
set_option linter.unusedVariables false
set_option linter.unusedSimpArgs false
open Go.RowKit Go.Maps Go.Proofs
set_option maxRecDepth 100000
theorem small_mod (n : Int) (m : Nat) (hm : 0 < m) (hm2 : m < 1000) : ∃ k : Nat, k < m ∧ wrap64 ((IntKind.u64.wrap n).tmod m) = (k : Int) := by
  have h0 : 0 ≤ IntKind.u64.wrap n := by
    unfold IntKind.wrap
    simp [IntKind.bits, IntKind.signed]
    omega
  have h1 : (IntKind.u64.wrap n).tmod m = IntKind.u64.wrap n % m := Int.tmod_eq_emod_of_nonneg h0
  have h2 := Int.emod_nonneg (IntKind.u64.wrap n) (show (m : Int) ≠ 0 by omega)
  have h3 := Int.emod_lt_of_pos (IntKind.u64.wrap n) (show (0 : Int) < m by omega)
  refine ⟨(IntKind.u64.wrap n % m).toNat, by omega, ?_⟩
  rw [h1, Int.toNat_of_nonneg h2]
  unfold wrap64; omega
/-- what lies in memory: the params, the Signer, the other root -/
structure LfP (w w1 w' : World) (g p gl : Nat) (st : St) (F : Nat → Int) (D k u : Nat) (bs : List (Value × List Int)) : Prop where
  m : SgX w1.heap.size w' g p st nmK F D k gl u none bs
  par : w'.heap[w.heap.size]? = some (.cells (parC (D : Int) (k : Int)) 25 (0, 0))
  below : Below w1.heap.size w1 w'
  lt : w.heap.size < w1.heap.size
theorem LfP.call {w w1 w' w2 : World} {g p gl : Nat} {st : St} {F : Nat → Int} {D k u : Nat} {bs : List (Value × List Int)} (x : LfP w w1 w' g p gl st F D k u bs) (hb : Below w'.heap.size w' w2) : LfP w w1 w2 g p gl st F D k u bs :=
  ⟨x.m.below hb, (hb.block _ (heap_lt' x.par)).trans x.par, x.below.trans (hb.mono x.m.fs.le), x.lt⟩
theorem FsX.mono {B B' p : Nat} {w : World} {st : St} {bs : List (Value × List Int)} (h : FsX B w p st bs) (hB : B' ≤ B) : FsX B' w p st bs := by
  obtain ⟨R, h1, r⟩ := h
  exact ⟨R, ⟨h1.fs, fun k o hr => Nat.le_trans hB (h1.reads k o hr), Nat.le_trans hB h1.le⟩, r⟩
structure LfM (w w1 w' : World) (g p gl h : Nat) (st : St) (F R : Nat → Int) (D k u : Nat) (bs : List (Value × List Int)) : Prop where
  m : SgX w1.heap.size w' g p st nmK F D k gl u none bs
  par : w'.heap[w.heap.size]? = some (.cells (parC (D : Int) (k : Int)) 25 (0, 0))
  row : RowAt w' h .u8 32 23 R
  below : Below w1.heap.size w1 w'
  lt : w.heap.size < w1.heap.size
theorem LfM.call {w w1 w' w2 : World} {g p gl h : Nat} {st : St} {F R : Nat → Int} {D k u : Nat} {bs : List (Value × List Int)} (x : LfM w w1 w' g p gl h st F R D k u bs) (hb : Below w'.heap.size w' w2) : LfM w w1 w2 g p gl h st F R D k u bs :=
  ⟨x.m.below hb, (hb.block _ (heap_lt' x.par)).trans x.par, x.row.below hb x.row.lt, x.below.trans (hb.mono x.m.fs.le), x.lt⟩
theorem LfM.sign {w w1 w' w2 : World} {g p gl h : Nat} {st st' : St} {F R : Nat → Int} {D k u u' : Nat} {bs cs : List (Value × List Int)} (x : LfM w w1 w' g p gl h st F R D k u bs) (m : SgX w1.heap.size w2 g p st' nmK F D k gl u' none cs) (hb : Below w1.heap.size w' w2) (hk : KeepS w' w2) : LfM w w1 w2 g p gl h st' F R D k u' cs :=
  ⟨m, (hb.block _ x.lt).trans x.par, hk _ _ _ x.row (by decide) (by decide) (by decide), x.below.trans hb, x.lt⟩
theorem LfM.str {w w1 w' : World} {g p gl h : Nat} {st : St} {F R : Nat → Int} {D k u : Nat} {bs : List (Value × List Int)} (x : LfM w w1 w' g p gl h st F R D k u bs) (s : ByteArray) (hs : s.size ≤ maxLen) :
    LfM w w1 (bytesW w' s) g p gl h st F R D k u ((.slice (some ⟨w'.heap.size, 0, none⟩) s.size (grownCap w' s.size 0 5), numsOf s) :: bs) := by
  have hb := bytesW_below w' s
  have x' := x.call hb
  exact ⟨⟨x'.m.env, x.m.fs.add hb (bytesW_in w' s hs) (fun _ j hj => .inr (by simp [Value.ownBlock] at hj; omega)), x'.m.cells, x'.m.leaves, x'.m.gB, x'.m.nmS, x'.m.dOk, x'.m.kOk, x'.m.uOk⟩, x'.par, x'.row, x'.below, x'.lt⟩
theorem LfM.depth {w w1 w' : World} {g p gl h : Nat} {st : St} {F R : Nat → Int} {D k u : Nat} {bs : List (Value × List Int)} (x : LfM w w1 w' g p gl h st F R D k u bs) : w'.cell? ⟨w.heap.size, 1, none⟩ = some (.int .i64 (k : Int)) := by rw [cell_of_row _ _ _ _ _ _ x.par]; rfl
theorem KEnv.up {B B' : Nat} {w : World} (h : KEnv B w) (hB : B ≤ B') : KEnv B' w := ⟨h.env, h.nib, h.err, Nat.lt_of_lt_of_le h.c1 hB, Nat.lt_of_lt_of_le h.c2 hB, Nat.lt_of_lt_of_le h.c3 hB⟩
theorem eqB_symm (f g : Nat → Int) : eqB f g = eqB g f := by
  unfold eqB
  congr 1
  funext i
  exact BEq.comm
theorem LfM.made {w w1 w' : World} {g p gl h : Nat} {st : St} {F R R0 : Nat → Int} {D k u : Nat} (x : LfP w w1 w' g p gl st F D k u []) (hh : w1.heap.size ≤ h ∧ gl < h) (hr : RowAt w' h .u8 32 23 R0) : LfM w w1 (w'.setRow h (rowOf .u8 32 R)) g p gl h st F R D k u [] := by
  have hO := Only.setRow w' h (rowOf .u8 32 R)
  have hb : Below w1.heap.size w' (w'.setRow h (rowOf .u8 32 R)) := hO.below hh.1 x.m.fs.le
  obtain ⟨Rf, h1, h2, h3, _⟩ := x.m.fs
  have hrd : ∀ o, ¬ Reads Rf h o := h1.fs.typed hr (by decide) (by decide)
  have hk : Keep (fun k _ => k = h) w' (w'.setRow h (rowOf .u8 32 R)) := ⟨hO.os, hO.tape, hO.output, hO.size, fun k hk hn => hO.block k hk fun e => hn 0 e, fun k cur T hc => by
    by_cases e : k = h
    · subst e
      have hr' := hr
      unfold RowAt at hr'
      rw [hr'] at hc; injection hc with hc; injection hc with hc1 hc2; subst hc1 hc2
      exact ⟨_, setRow_heap _ _ _ _ _ _ hr, by rw [rowOf_size, rowOf_size], fun o ho => absurd rfl ho⟩
    · exact ⟨cur, (hO.block k (heap_lt' hc) e).trans hc, rfl, fun _ _ => rfl⟩⟩
  have hg : g ≠ h := fun e => by
    subst e
    have := x.m.cells
    unfold RowAt at hr
    rw [hr] at this; injection this with this; injection this with _ this; exact absurd this (by decide)
  refine ⟨⟨x.m.env.below hb, ⟨Rf, ⟨h1.fs.keep hk fun k o hf => by subst hf; exact hrd o, h1.reads, Nat.le_trans h1.le hk.size⟩, h2, h3, fun b hb => by cases hb⟩, (hO.block _ (heap_lt' x.m.cells) hg).trans x.m.cells, ?_, x.m.gB, x.m.nmS, x.m.dOk, x.m.kOk, x.m.uOk⟩, (hO.block _ (heap_lt' x.par) (by have := x.lt; omega)).trans x.par, setRow_heap _ _ _ _ _ _ hr, x.below.trans hb, x.lt⟩
  obtain ⟨cs, e1, e2, e3⟩ := x.m.leaves
  exact ⟨cs, (hO.block _ (heap_lt' e1) (by omega)).trans e1, e2, e3⟩
set_option maxRecDepth 2000000 in
set_option maxHeartbeats 8000000 in
theorem lleft_any (a b : ByteArray) (depth : Int) (w : World) (he : KEnv w.heap.size w) (ha : a.size ≤ 140737488351232) (hb : b.size ≤ 140737488351232) :
    Calls Tryz.prog 5 #[.string a, .string b, .int .i64 depth] w fun e w' => e = .returned (.bool true) ∧ Below w.heap.size w w' := by
  obtain ⟨D, hD⟩ : ∃ D : Nat, D = 4 := ⟨_, rfl⟩
  obtain ⟨k, hk, hkn⟩ := small_mod depth 4 (by decide) (by decide)
  have HKN := Lib.hid hkn
  have HD4 := Lib.hid hD
  have HDD := Lib.hid (show 1 ≤ D ∧ D ≤ 32 by omega)
  have HKK := Lib.hid (show k ≤ 10 by omega)
  have hki : (k : Int) < 4 := by omega
  have HA := Lib.hid ha
  have HAM := Lib.hid (show a.size ≤ maxLen by unfold maxLen; omega)
  have HSA := Lib.hid (fun w (h : Env w) => kseed_any a w h ha)
  have HSB := Lib.hid (fun w (h : Env w) => kseed_any b w h hb)
  obtain ⟨FA, hFA⟩ : ∃ FA, FA = seedF a := ⟨_, rfl⟩
  obtain ⟨FB, hFB⟩ : ∃ FB, FB = seedF b := ⟨_, rfl⟩
  rw [← hFA] at HSA
  rw [← hFB] at HSB
  have HOP := Lib.hid (show ∀ B w' p, KEnv B w' → FsX B w' p st0 [] → Calls Tryz.prog 18 #[.pointer (some ⟨p, 0, none⟩), .string { data := #[107] }, .agg (rowOf .u8 32 FA), .agg (parC D k)] w' fun e w'' => ∃ g gl, e = .returned (.tuple #[.pointer (some ⟨g, 0, none⟩), .nilIface]) ∧ SgX B w'' g p st0 nmK FA D k gl 0 none [] ∧ Below B w' w'' ∧ KeepT w' w'' from fun B w' p h1 h2 => kopen0 (nm := nmK) h2 h1 (by decide) (by decide) FA D k HDD.out HKK.out)
  have HRO := Lib.hid (show ∀ w, Env w → Calls Tryz.prog 7 #[.agg (rowOf .u8 32 FB), .agg (parC D k)] w fun e w' => e = .returned (.tuple #[.agg (rowOf .u8 32 (rootF (keyL FB D k))), .nilIface]) ∧ Below w.heap.size w w' from fun w h => by
    have := kroot_any FB (D : Int) (k : Int) w h
    rw [show kRootR FB (D : Int) (k : Int) = (rootF (keyL FB D k), none) by unfold kRootR; rw [if_pos (by have := HDD.out; have := HKK.out; unfold kOk; omega)]; rfl] at this
    exact this)
  obtain ⟨RB, hRB⟩ : ∃ RB, RB = rootF (keyL FB D k) := ⟨_, rfl⟩
  rw [← hRB] at HRO
  obtain ⟨n, hn⟩ : ∃ n, n = 2 ^ k := ⟨_, rfl⟩
  have HN := Lib.hid hn
  have HN8 := Lib.hid (show 1 ≤ n ∧ n ≤ 8 by rw [hn]; exact ⟨Nat.one_le_two_pow, Nat.pow_le_pow_right (n := 2) (j := 3) (by omega) (by omega)⟩)
  have hshl : wrap64 ((2 : Int) ^ k) = (n : Int) := by
    have h2 : (2 : Int) ^ k = ((2 ^ k : Nat) : Int) := by simp
    rw [h2, ← hn]; exact IntWalk.wrap64_in _ ⟨by omega, by have := HN8.out; omega⟩
  have HSHL := Lib.hid hshl
  have hsg : ∀ w : World, (convert 9 26 (.string a)).run Tryz.prog w = .ok (.slice (some ⟨w.heap.size, 0, none⟩) a.size (grownCap w a.size 0 5)) (bytesW w a) := fun w => run_bytes_of_string w 9 26 5 a Tryz.underlying9 Tryz.underlying26 Tryz.underlying5
  have HNU := Lib.hid (show ∀ w, ErrType w → Calls Tryz.prog 11 #[.iface 87 (.int .i64 22)] w fun e w' => e = .returned (.int .i64 22) ∧ Below w.heap.size w w' from fun w h => num_any (some 22) w h)
  have HB0 := Lib.hid (below_alloc w (.cells (parC (D : Int) (k : Int)) 25))
  have HP0 := Lib.hid (heap_alloc_new w (.cells (parC (D : Int) (k : Int)) 25))
  have HE := Lib.hid (show KEnv (w.alloc (.cells (parC (D : Int) (k : Int)) 25)).heap.size (w.alloc (.cells (parC (D : Int) (k : Int)) 25)) from by
    have h := he.below HB0.out
    exact ⟨h.env, h.nib, h.err, Nat.lt_of_lt_of_le h.c1 HB0.out.size, Nat.lt_of_lt_of_le h.c2 HB0.out.size, Nat.lt_of_lt_of_le h.c3 HB0.out.size⟩)
  have HLT := Lib.hid (show w.heap.size < (w.alloc (.cells (parC (D : Int) (k : Int)) 25)).heap.size by simp)
  clear he ha hb hk hkn hFA hFB hRB hn hshl hD
  go_enter Tryz.func5, Tryz.ntmps5
  go_upto_region 1 with (fail)
  have hz := HKN.out
  simp only [Int.cast_ofNat_Int] at hz
  go_upto_region 2 with (refine wpList_store_row rfl 25 (.tmp 7) (.tmp 24) rfl w.heap.size #[.int .i64 4, .int .i64 (k : Int)] rfl (by rw [← hz]; rfl) 25 _ (heap_alloc_new _ _) (by kernel_rfl) (by rfl) (by rfl) ?_; rw [World.setRow_alloc_new])
  rw [show #[Value.int .i64 4, .int .i64 (k : Int)] = parC (D : Int) (k : Int) by rw [HD4.out]; rfl]
  clear hz
  generalize w.alloc (.cells (parC (D : Int) (k : Int)) 25) = w1 at *
  refine wp_region_T (fun w' => w'.heap[w.heap.size]? = some (.cells (parC (D : Int) (k : Int)) 25 (0, 0))) [0, 2, 3] (by kernel_rfl) ?_
  obtain ⟨w2, hw2⟩ : ∃ w2, w2 = w1.drew := ⟨_, rfl⟩
  have HBD := Lib.hid (show Below w1.heap.size w1 w2 by rw [hw2]; exact (Below.refl _ w1).drew)
  rw [← hw2]
  clear hw2
  have HP := Lib.hid ((HBD.out.block _ HLT.out).trans HP0.out)
  refine anyT_takeY (i := 1) (v := .string a) rfl (by kernel_rfl) (by kernel_rfl) (by kernel_rfl) (fun _ _ _ h => h) (by kernel_rfl) (Or.inl ⟨by rfl, by intro w; go_simp⟩) ?_
  try simp only [List.getElem_toArray, List.getElem_cons_succ, List.getElem_cons_zero, Act.put, List.setIfInBounds_toArray, List.set_cons_zero, List.set_cons_succ]
  refine anyT_take [4, 5, 6, 7, 8, 9] (i := 3) (v := .agg (parC (D : Int) (k : Int))) rfl (by kernel_rfl) (by kernel_rfl) (by kernel_rfl) (fun _ _ _ h => h) (by kernel_rfl) (kagg_yields (by rfl) 25 (.tmp 7) rfl w.heap.size rfl (parC (D : Int) (k : Int)) _ (fun _ h => h) Tryz.underlying25 rfl (by kernel_rfl)) HP.out ?_
  try simp only [List.getElem_toArray, List.getElem_cons_succ, List.getElem_cons_zero, Act.put, List.setIfInBounds_toArray, List.set_cons_zero, List.set_cons_succ]
  refine anyT_one (i := 0) (by kernel_rfl) rfl (fun K hK => ?_)
  rw [if_pos (by rfl)]
  try simp only [List.getElem_toArray, List.getElem_cons_succ, List.getElem_cons_zero]
  (go_simp; refine (new_own _).mono ?_; rintro e w3 ⟨p, rfl, ho, hb⟩; have HO := Lib.hid ((FsX.of ho).mono HBD.out.size); have HBB := Lib.hid (HBD.out.trans (hb.mono HBD.out.size)); replace HP := Lib.hid ((hb.block _ (heap_lt' HP.out)).trans HP.out); clear ho hb)
  refine hK _ _ (fun _ => HP.out) ?_
  clear hK K
  try simp only [List.getElem_toArray, List.getElem_cons_succ, List.getElem_cons_zero, Act.put, List.setIfInBounds_toArray, List.set_cons_zero, List.set_cons_succ]
  refine anyT_one (i := 2) (by kernel_rfl) rfl (fun K hK => ?_)
  rw [if_pos (by rfl)]
  try simp only [List.getElem_toArray, List.getElem_cons_succ, List.getElem_cons_zero]
  (go_simp; refine (HSA.out _ (HE.out.below HBB.out).env).mono ?_; rintro e w4 ⟨rfl, hb⟩; replace HO := Lib.hid (HO.out.below hb); replace HBB := Lib.hid (HBB.out.trans (hb.mono HBB.out.size)); replace HP := Lib.hid ((hb.block _ (heap_lt' HP.out)).trans HP.out); clear hb)
  refine hK _ _ (fun _ => HP.out) ?_
  clear hK K
  try simp only [List.getElem_toArray, List.getElem_cons_succ, List.getElem_cons_zero, Act.put, List.setIfInBounds_toArray, List.set_cons_zero, List.set_cons_succ]
  refine anyT_one (i := 4) (by kernel_rfl) rfl (fun K hK => ?_)
  rw [if_pos (by rfl)]
  try simp only [List.getElem_toArray, List.getElem_cons_succ, List.getElem_cons_zero]
  (go_simp; refine (HOP.out w1.heap.size _ p (HE.out.below HBB.out) HO.out).mono ?_; rintro e w5 ⟨g, gl, rfl, hm, hb, -⟩; have M := Lib.hid hm; replace HP := Lib.hid ((hb.block _ HLT.out).trans HP.out); replace HBB := Lib.hid (HBB.out.trans hb); clear hb hm HO)
  refine hK _ _ (not_mem rfl) ?_
  clear hK K
  try simp only [List.getElem_toArray, List.getElem_cons_succ, List.getElem_cons_zero, Act.put, List.setIfInBounds_toArray, List.set_cons_zero, List.set_cons_succ]
  refine anyT_takeY (i := 5) (v := .tuple #[.pointer (some ⟨g, 0, none⟩), .nilIface]) rfl (by kernel_rfl) (by kernel_rfl) (by kernel_rfl) (fun _ _ _ h => h) (by kernel_rfl) (Or.inl ⟨by rfl, by intro w; go_simp⟩) ?_
  try simp only [List.getElem_toArray, List.getElem_cons_succ, List.getElem_cons_zero, Act.put, List.setIfInBounds_toArray, List.set_cons_zero, List.set_cons_succ]
  refine anyT_takeY (i := 6) (v := .pointer (some ⟨g, 0, none⟩)) rfl (by kernel_rfl) (by kernel_rfl) (by kernel_rfl) (fun _ _ _ h => h) (by kernel_rfl) (Or.inl ⟨by rfl, by intro w; go_simp⟩) ?_
  try simp only [List.getElem_toArray, List.getElem_cons_succ, List.getElem_cons_zero, Act.put, List.setIfInBounds_toArray, List.set_cons_zero, List.set_cons_succ]
  refine anyT_takeY (i := 7) (v := .nilIface) rfl (by kernel_rfl) (by kernel_rfl) (by kernel_rfl) (fun _ _ _ h => h) (by kernel_rfl) (Or.inl ⟨by rfl, by intro w; go_simp⟩) ?_
  try simp only [List.getElem_toArray, List.getElem_cons_succ, List.getElem_cons_zero, Act.put, List.setIfInBounds_toArray, List.set_cons_zero, List.set_cons_succ]
  refine anyT_takeY (i := 8) (v := .pointer (some ⟨g, 0, none⟩)) rfl (by kernel_rfl) (by kernel_rfl) (by kernel_rfl) (fun _ _ _ h => h) (by kernel_rfl) (Or.inl ⟨by rfl, by intro w; go_simp⟩) ?_
  try simp only [List.getElem_toArray, List.getElem_cons_succ, List.getElem_cons_zero, Act.put, List.setIfInBounds_toArray, List.set_cons_zero, List.set_cons_succ]
  refine anyT_takeY (i := 9) (v := .nilIface) rfl (by kernel_rfl) (by kernel_rfl) (by kernel_rfl) (fun _ _ _ h => h) (by kernel_rfl) (Or.inl ⟨by rfl, by intro w; go_simp⟩) ?_
  try simp only [List.getElem_toArray, List.getElem_cons_succ, List.getElem_cons_zero, Act.put, List.setIfInBounds_toArray, List.set_cons_zero, List.set_cons_succ]
  refine anyT_done (by kernel_rfl) ?_ _
  replace M := Lib.hid (show LfP w w1 w5 g p gl st0 FA D k 0 [] from ⟨M.out, HP.out, HBB.out, HLT.out⟩)
  clear HP HBB HBD
  go_upto_region 3 with (fail)
  go_cut [10, 11] (fun p10 e11 wx => ∃ h, p10 = .pointer (some ⟨h, 0, none⟩) ∧ e11 = .nilIface ∧ Hid (LfM w w1 wx g p gl h st0 FA RB D k 0 []))
  case first =>
    refine wp_region_T (fun w' => w'.heap[w.heap.size]? = some (.cells (parC (D : Int) (k : Int)) 25 (0, 0))) [1, 2, 3, 7] (by kernel_rfl) ?_
    replace M := Lib.hid (M.out.call (Below.refl _ _).drew)
    generalize w5.drew = w6 at *
    refine anyT_takeY (i := 0) (v := .string b) rfl (by kernel_rfl) (by kernel_rfl) (by kernel_rfl) (fun _ _ _ h => h) (by kernel_rfl) (Or.inl ⟨by rfl, by intro w; go_simp⟩) ?_
    try simp only [List.getElem_toArray, List.getElem_cons_succ, List.getElem_cons_zero, Act.put, List.setIfInBounds_toArray, List.set_cons_zero, List.set_cons_succ]
    refine anyT_take [3, 4, 5, 6, 8, 9] (i := 2) (v := .agg (parC (D : Int) (k : Int))) rfl (by kernel_rfl) (by kernel_rfl) (by kernel_rfl) (fun _ _ _ h => h) (by kernel_rfl) (kagg_yields (by rfl) 25 (.tmp 7) rfl w.heap.size rfl (parC (D : Int) (k : Int)) _ (fun _ h => h) Tryz.underlying25 rfl (by kernel_rfl)) M.out.par ?_
    try simp only [List.getElem_toArray, List.getElem_cons_succ, List.getElem_cons_zero, Act.put, List.setIfInBounds_toArray, List.set_cons_zero, List.set_cons_succ]
    refine anyT_ready (rs := [1, 7]) (by kernel_rfl) (by simp) ?_
    refine readyT_cons rfl (fun K hK => ?_) (readyT_cons rfl (fun K hK => ?_) readyT_nil)
    · rw [if_pos (by rfl)]
      try simp only [List.getElem_toArray, List.getElem_cons_succ, List.getElem_cons_zero]
      (go_simp; refine (HSB.out _ M.out.m.env.env).mono ?_; rintro e w7 ⟨rfl, hb⟩; replace M := Lib.hid (M.out.call hb); clear hb)
      refine hK _ _ (fun _ => M.out.par) ?_
      clear hK K
      try simp only [List.getElem_toArray, List.getElem_cons_succ, List.getElem_cons_zero, Act.put, List.setIfInBounds_toArray, List.set_cons_zero, List.set_cons_succ]
      refine anyT_ready (rs := [3, 7]) (by kernel_rfl) (by simp) ?_
      refine readyT_cons rfl (fun K hK => ?_) (readyT_cons rfl (fun K hK => ?_) readyT_nil)
      · rw [if_pos (by rfl)]
        try simp only [List.getElem_toArray, List.getElem_cons_succ, List.getElem_cons_zero]
        (go_simp; refine (HRO.out _ M.out.m.env.env).mono ?_; rintro e w8 ⟨rfl, hb⟩; replace M := Lib.hid (M.out.call hb); clear hb)
        refine hK _ _ (fun _ => M.out.par) ?_
        clear hK K
        try simp only [List.getElem_toArray, List.getElem_cons_succ, List.getElem_cons_zero, Act.put, List.setIfInBounds_toArray, List.set_cons_zero, List.set_cons_succ]
        refine anyT_takeY (i := 4) (v := .tuple #[.agg (rowOf .u8 32 RB), .nilIface]) rfl (by kernel_rfl) (by kernel_rfl) (by kernel_rfl) (fun _ _ _ h => h) (by kernel_rfl) (Or.inl ⟨by rfl, by intro w; go_simp⟩) ?_
        try simp only [List.getElem_toArray, List.getElem_cons_succ, List.getElem_cons_zero, Act.put, List.setIfInBounds_toArray, List.set_cons_zero, List.set_cons_succ]
        refine anyT_takeY (i := 5) (v := .agg (rowOf .u8 32 RB)) rfl (by kernel_rfl) (by kernel_rfl) (by kernel_rfl) (fun _ _ _ h => h) (by kernel_rfl) (Or.inl ⟨by rfl, by intro w; go_simp⟩) ?_
        try simp only [List.getElem_toArray, List.getElem_cons_succ, List.getElem_cons_zero, Act.put, List.setIfInBounds_toArray, List.set_cons_zero, List.set_cons_succ]
        refine anyT_takeY (i := 6) (v := .nilIface) rfl (by kernel_rfl) (by kernel_rfl) (by kernel_rfl) (fun _ _ _ h => h) (by kernel_rfl) (Or.inl ⟨by rfl, by intro w; go_simp⟩) ?_
        try simp only [List.getElem_toArray, List.getElem_cons_succ, List.getElem_cons_zero, Act.put, List.setIfInBounds_toArray, List.set_cons_zero, List.set_cons_succ]
        refine anyT_one (i := 7) (by kernel_rfl) rfl (fun K hK => ?_)
        rw [if_pos (by rfl)]
        try simp only [List.getElem_toArray, List.getElem_cons_succ, List.getElem_cons_zero]
        (go_simp; have R9 := Lib.hid (RowAt.new w8 .u8 32 23 (fun _ => 0)); have HS9 := Lib.hid (And.intro M.out.m.fs.le M.out.m.leaves.lt); replace M := Lib.hid (M.out.call (below_alloc w8 (.cells (rowOf .u8 32 (fun _ => 0)) 23))))
        refine hK _ _ (fun _ => M.out.par) ?_
        clear hK K
        try simp only [List.getElem_toArray, List.getElem_cons_succ, List.getElem_cons_zero, Act.put, List.setIfInBounds_toArray, List.set_cons_zero, List.set_cons_succ]
        rw [zeros32]
        obtain ⟨h9, hh9⟩ : ∃ h9, h9 = w8.heap.size := ⟨_, rfl⟩
        have HG9 := Lib.hid (show w1.heap.size ≤ h9 ∧ gl < h9 by rw [hh9]; exact HS9.out)
        rw [← hh9] at R9 ⊢
        generalize w8.alloc (.cells (rowOf .u8 32 (fun _ => 0)) 23) = w9 at *
        clear hh9
        refine anyT_one (i := 8) (by kernel_rfl) rfl (fun K hK => ?_)
        rw [if_pos (by rfl)]
        try simp only [List.getElem_toArray, List.getElem_cons_succ, List.getElem_cons_zero]
        (refine wp_store_row 23 (.tmp 10) (.tmp 38) rfl h9 (rowOf .u8 32 RB) rfl rfl 23 _ R9.out (by rw [rowOf_size]; kernel_rfl) (by rw [rowOf_size, rowOf_size]) (rowOf_one _ _ _) ?_)
        refine hK _ _ (not_mem rfl) ?_
        clear hK K
        try simp only [List.getElem_toArray, List.getElem_cons_succ, List.getElem_cons_zero, Act.put, List.setIfInBounds_toArray, List.set_cons_zero, List.set_cons_succ]
        refine anyT_takeY (i := 9) (v := .nilIface) rfl (by kernel_rfl) (by kernel_rfl) (by kernel_rfl) (fun _ _ _ h => h) (by kernel_rfl) (Or.inl ⟨by rfl, by intro w; go_simp⟩) ?_
        try simp only [List.getElem_toArray, List.getElem_cons_succ, List.getElem_cons_zero, Act.put, List.setIfInBounds_toArray, List.set_cons_zero, List.set_cons_succ]
        refine anyT_done (by kernel_rfl) ?_ _
        go_wp2_with (fail)
        go_meet
        exact ⟨h9, rfl, rfl, Lib.hid (LfM.made M.out HG9.out R9.out)⟩
      · rw [if_pos (by rfl)]
        try simp only [List.getElem_toArray, List.getElem_cons_succ, List.getElem_cons_zero]
        (go_simp; have R9 := Lib.hid (RowAt.new w7 .u8 32 23 (fun _ => 0)); have HS9 := Lib.hid (And.intro M.out.m.fs.le M.out.m.leaves.lt); replace M := Lib.hid (M.out.call (below_alloc w7 (.cells (rowOf .u8 32 (fun _ => 0)) 23))))
        refine hK _ _ (fun _ => M.out.par) ?_
        clear hK K
        try simp only [List.getElem_toArray, List.getElem_cons_succ, List.getElem_cons_zero, Act.put, List.setIfInBounds_toArray, List.set_cons_zero, List.set_cons_succ]
        rw [zeros32]
        obtain ⟨h9, hh9⟩ : ∃ h9, h9 = w7.heap.size := ⟨_, rfl⟩
        have HG9 := Lib.hid (show w1.heap.size ≤ h9 ∧ gl < h9 by rw [hh9]; exact HS9.out)
        rw [← hh9] at R9 ⊢
        generalize w7.alloc (.cells (rowOf .u8 32 (fun _ => 0)) 23) = w8 at *
        clear hh9
        refine anyT_one (i := 3) (by kernel_rfl) rfl (fun K hK => ?_)
        rw [if_pos (by rfl)]
        try simp only [List.getElem_toArray, List.getElem_cons_succ, List.getElem_cons_zero]
        (go_simp; refine (HRO.out _ M.out.m.env.env).mono ?_; rintro e w9 ⟨rfl, hb⟩; replace M := Lib.hid (M.out.call hb); replace R9 := Lib.hid (R9.out.below hb R9.out.lt); clear hb)
        refine hK _ _ (fun _ => M.out.par) ?_
        clear hK K
        try simp only [List.getElem_toArray, List.getElem_cons_succ, List.getElem_cons_zero, Act.put, List.setIfInBounds_toArray, List.set_cons_zero, List.set_cons_succ]
        refine anyT_takeY (i := 4) (v := .tuple #[.agg (rowOf .u8 32 RB), .nilIface]) rfl (by kernel_rfl) (by kernel_rfl) (by kernel_rfl) (fun _ _ _ h => h) (by kernel_rfl) (Or.inl ⟨by rfl, by intro w; go_simp⟩) ?_
        try simp only [List.getElem_toArray, List.getElem_cons_succ, List.getElem_cons_zero, Act.put, List.setIfInBounds_toArray, List.set_cons_zero, List.set_cons_succ]
        refine anyT_takeY (i := 5) (v := .agg (rowOf .u8 32 RB)) rfl (by kernel_rfl) (by kernel_rfl) (by kernel_rfl) (fun _ _ _ h => h) (by kernel_rfl) (Or.inl ⟨by rfl, by intro w; go_simp⟩) ?_
        try simp only [List.getElem_toArray, List.getElem_cons_succ, List.getElem_cons_zero, Act.put, List.setIfInBounds_toArray, List.set_cons_zero, List.set_cons_succ]
        refine anyT_takeY (i := 6) (v := .nilIface) rfl (by kernel_rfl) (by kernel_rfl) (by kernel_rfl) (fun _ _ _ h => h) (by kernel_rfl) (Or.inl ⟨by rfl, by intro w; go_simp⟩) ?_
        try simp only [List.getElem_toArray, List.getElem_cons_succ, List.getElem_cons_zero, Act.put, List.setIfInBounds_toArray, List.set_cons_zero, List.set_cons_succ]
        refine anyT_one (i := 8) (by kernel_rfl) rfl (fun K hK => ?_)
        rw [if_pos (by rfl)]
        try simp only [List.getElem_toArray, List.getElem_cons_succ, List.getElem_cons_zero]
        (refine wp_store_row 23 (.tmp 10) (.tmp 38) rfl h9 (rowOf .u8 32 RB) rfl rfl 23 _ R9.out (by rw [rowOf_size]; kernel_rfl) (by rw [rowOf_size, rowOf_size]) (rowOf_one _ _ _) ?_)
        refine hK _ _ (not_mem rfl) ?_
        clear hK K
        try simp only [List.getElem_toArray, List.getElem_cons_succ, List.getElem_cons_zero, Act.put, List.setIfInBounds_toArray, List.set_cons_zero, List.set_cons_succ]
        refine anyT_takeY (i := 9) (v := .nilIface) rfl (by kernel_rfl) (by kernel_rfl) (by kernel_rfl) (fun _ _ _ h => h) (by kernel_rfl) (Or.inl ⟨by rfl, by intro w; go_simp⟩) ?_
        try simp only [List.getElem_toArray, List.getElem_cons_succ, List.getElem_cons_zero, Act.put, List.setIfInBounds_toArray, List.set_cons_zero, List.set_cons_succ]
        refine anyT_done (by kernel_rfl) ?_ _
        go_wp2_with (fail)
        go_meet
        exact ⟨h9, rfl, rfl, Lib.hid (LfM.made M.out HG9.out R9.out)⟩
    · rw [if_pos (by rfl)]
      try simp only [List.getElem_toArray, List.getElem_cons_succ, List.getElem_cons_zero]
      (go_simp; have R9 := Lib.hid (RowAt.new w6 .u8 32 23 (fun _ => 0)); have HS9 := Lib.hid (And.intro M.out.m.fs.le M.out.m.leaves.lt); replace M := Lib.hid (M.out.call (below_alloc w6 (.cells (rowOf .u8 32 (fun _ => 0)) 23))))
      refine hK _ _ (fun _ => M.out.par) ?_
      clear hK K
      try simp only [List.getElem_toArray, List.getElem_cons_succ, List.getElem_cons_zero, Act.put, List.setIfInBounds_toArray, List.set_cons_zero, List.set_cons_succ]
      rw [zeros32]
      obtain ⟨h9, hh9⟩ : ∃ h9, h9 = w6.heap.size := ⟨_, rfl⟩
      have HG9 := Lib.hid (show w1.heap.size ≤ h9 ∧ gl < h9 by rw [hh9]; exact HS9.out)
      rw [← hh9] at R9 ⊢
      generalize w6.alloc (.cells (rowOf .u8 32 (fun _ => 0)) 23) = w7 at *
      clear hh9
      refine anyT_one (i := 1) (by kernel_rfl) rfl (fun K hK => ?_)
      rw [if_pos (by rfl)]
      try simp only [List.getElem_toArray, List.getElem_cons_succ, List.getElem_cons_zero]
      (go_simp; refine (HSB.out _ M.out.m.env.env).mono ?_; rintro e w8 ⟨rfl, hb⟩; replace M := Lib.hid (M.out.call hb); replace R9 := Lib.hid (R9.out.below hb R9.out.lt); clear hb)
      refine hK _ _ (fun _ => M.out.par) ?_
      clear hK K
      try simp only [List.getElem_toArray, List.getElem_cons_succ, List.getElem_cons_zero, Act.put, List.setIfInBounds_toArray, List.set_cons_zero, List.set_cons_succ]
      refine anyT_one (i := 3) (by kernel_rfl) rfl (fun K hK => ?_)
      rw [if_pos (by rfl)]
      try simp only [List.getElem_toArray, List.getElem_cons_succ, List.getElem_cons_zero]
      (go_simp; refine (HRO.out _ M.out.m.env.env).mono ?_; rintro e w9 ⟨rfl, hb⟩; replace M := Lib.hid (M.out.call hb); replace R9 := Lib.hid (R9.out.below hb R9.out.lt); clear hb)
      refine hK _ _ (fun _ => M.out.par) ?_
      clear hK K
      try simp only [List.getElem_toArray, List.getElem_cons_succ, List.getElem_cons_zero, Act.put, List.setIfInBounds_toArray, List.set_cons_zero, List.set_cons_succ]
      refine anyT_takeY (i := 4) (v := .tuple #[.agg (rowOf .u8 32 RB), .nilIface]) rfl (by kernel_rfl) (by kernel_rfl) (by kernel_rfl) (fun _ _ _ h => h) (by kernel_rfl) (Or.inl ⟨by rfl, by intro w; go_simp⟩) ?_
      try simp only [List.getElem_toArray, List.getElem_cons_succ, List.getElem_cons_zero, Act.put, List.setIfInBounds_toArray, List.set_cons_zero, List.set_cons_succ]
      refine anyT_takeY (i := 5) (v := .agg (rowOf .u8 32 RB)) rfl (by kernel_rfl) (by kernel_rfl) (by kernel_rfl) (fun _ _ _ h => h) (by kernel_rfl) (Or.inl ⟨by rfl, by intro w; go_simp⟩) ?_
      try simp only [List.getElem_toArray, List.getElem_cons_succ, List.getElem_cons_zero, Act.put, List.setIfInBounds_toArray, List.set_cons_zero, List.set_cons_succ]
      refine anyT_takeY (i := 6) (v := .nilIface) rfl (by kernel_rfl) (by kernel_rfl) (by kernel_rfl) (fun _ _ _ h => h) (by kernel_rfl) (Or.inl ⟨by rfl, by intro w; go_simp⟩) ?_
      try simp only [List.getElem_toArray, List.getElem_cons_succ, List.getElem_cons_zero, Act.put, List.setIfInBounds_toArray, List.set_cons_zero, List.set_cons_succ]
      refine anyT_one (i := 8) (by kernel_rfl) rfl (fun K hK => ?_)
      rw [if_pos (by rfl)]
      try simp only [List.getElem_toArray, List.getElem_cons_succ, List.getElem_cons_zero]
      (refine wp_store_row 23 (.tmp 10) (.tmp 38) rfl h9 (rowOf .u8 32 RB) rfl rfl 23 _ R9.out (by rw [rowOf_size]; kernel_rfl) (by rw [rowOf_size, rowOf_size]) (rowOf_one _ _ _) ?_)
      refine hK _ _ (not_mem rfl) ?_
      clear hK K
      try simp only [List.getElem_toArray, List.getElem_cons_succ, List.getElem_cons_zero, Act.put, List.setIfInBounds_toArray, List.set_cons_zero, List.set_cons_succ]
      refine anyT_takeY (i := 9) (v := .nilIface) rfl (by kernel_rfl) (by kernel_rfl) (by kernel_rfl) (fun _ _ _ h => h) (by kernel_rfl) (Or.inl ⟨by rfl, by intro w; go_simp⟩) ?_
      try simp only [List.getElem_toArray, List.getElem_cons_succ, List.getElem_cons_zero, Act.put, List.setIfInBounds_toArray, List.set_cons_zero, List.set_cons_succ]
      refine anyT_done (by kernel_rfl) ?_ _
      go_wp2_with (fail)
      go_meet
      exact ⟨h9, rfl, rfl, Lib.hid (LfM.made M.out HG9.out R9.out)⟩
  case rest =>
    obtain ⟨h, rfl, rfl, M⟩ := hcut
    have c1 := M.out.depth
    have hkI : (0 : Int) ≤ k := by omega
    have HSR := Lib.hid (show ∀ w' st u bs, SgX w1.heap.size w' g p st nmK FA D k gl u none bs → Calls Tryz.prog 19 #[.pointer (some ⟨g, 0, none⟩)] w' fun e w'' => e = .returned (.agg (rowOf .u8 32 (rootF (keyL FA D k)))) ∧ Below w'.heap.size w' w'' from fun w' st u bs h => ksroot_any h)
    have HVF := Lib.hid (show ∀ j, j < n → ∀ vt vs w, Env w → BytesIn w vt (numsOf a) → BytesIn w vs (sigF FA D k j (numsOf a)) → Calls Tryz.prog 14 #[.agg (rowOf .u8 32 (rootF (keyL FA D k))), .agg (parC D k), vt, vs] w fun e w' => e = .returned .nilIface ∧ Below w.heap.size w w' from fun j hj vt vs w h1 h2 h3 => kverify_sig D k j FA (numsOf a) HDD.out HKK.out (by rw [← HN.out]; exact hj) vt vs w h1 h2 h3)
    have HVO := Lib.hid (show eqB RB (rootF (keyL FA D k)) = false → ∀ j, j < n → ∀ vt vs w, Env w → BytesIn w vt (numsOf a) → BytesIn w vs (sigF FA D k j (numsOf a)) → Calls Tryz.prog 14 #[.agg (rowOf .u8 32 RB), .agg (parC D k), vt, vs] w fun e w' => e = .returned (.iface 87 (.int .i64 21)) ∧ Below w.heap.size w w' from fun hne j hj vt vs w h1 h2 h3 => by
      have hjk : j < 2 ^ k := by rw [← HN.out]; exact hj
      have h := kverify_any RB (D : Int) (k : Int) vt vs (numsOf a) _ w h1 h2 h3 (sigF_ok FA D k j (numsOf a)) (by have := sigF_length FA D k j (numsOf a) HDD.out HKK.out hjk; omega)
      rw [ver_sig FA _ D k j (numsOf a) HDD.out HKK.out hjk, if_neg (by rw [eqB_symm, hne]; simp)] at h
      exact h)
    have HLF := Lib.hid (show ∀ j, j < n → ∀ vs w, BytesIn w vs (sigF FA D k j (numsOf a)) → Calls Tryz.prog 9 #[vs] w fun e w' => e = .returned (.tuple #[.int .i64 (j : Int), .nilIface]) ∧ Below w.heap.size w w' from fun j hj vs w h => kleaf_sig D k j FA (numsOf a) HDD.out HKK.out (by rw [← HN.out]; exact hj) vs w h)
    have HLT2 := Lib.hid (show ∀ w' st j bs, SgX w1.heap.size w' g p st nmK FA D k gl (j + 1) none bs → j < n → Calls Tryz.prog 25 #[.pointer (some ⟨g, 0, none⟩)] w' fun e w'' => e = .returned (.int .i64 ((n : Int) - 1 - j)) ∧ Below w'.heap.size w' w'' from fun w' st j bs h hj => by
      have := kleft_any h
      rw [← HN.out, show ((n - (j + 1) : Nat) : Int) = (n : Int) - 1 - j by omega] at this
      exact this)
    have HSP := Lib.hid (show ∀ w' st bs v, SgX w1.heap.size w' g p st nmK FA D k gl n none bs → Calls Tryz.prog 21 #[.pointer (some ⟨g, 0, none⟩), v] w' fun e w'' => ∃ v', e = .returned (.tuple #[v', .iface 87 (.int .i64 22)]) ∧ SgX w1.heap.size w'' g p st nmK FA D k gl n none ((v', []) :: bs) ∧ Below w1.heap.size w' w'' ∧ KeepS w' w'' from fun w' st bs v h => by
      have h' := h
      rw [HN.out] at h' ⊢
      exact ksign_spent h' v)
    obtain ⟨RA, hRA⟩ : ∃ RA, RA = rootF (keyL FA D k) := ⟨_, rfl⟩
    rw [← hRA] at HSR HVF HVO
    clear hRA
    have HC := Lib.hid (calm0 nmK (by decide))
    go_wp2_with (fail)
    rw [HSHL.out]
    go_loopw [13] (fun i wr => ∃ (j : Nat) (st : St) (bs : List (Value × List Int)), j ≤ n ∧ i = .int .i64 (j : Int) ∧ Hid (LfM w w1 wr g p gl h st FA RB D k j bs) ∧ Hid (Calm nmK st j)) (fun i _ => n - (intOf i).toNat)
    case atStart => exact ⟨0, _, _, Nat.zero_le _, rfl, M, HC⟩
    case round =>
      clear M HC c1
      obtain ⟨j, st, bs, hj, rfl, M, HC⟩ := hrel
      have hnI := HN8.out
      have hn8 : (n : Int) ≤ 8 := by omega
      clear hnI
      replace M := Lib.hid (M.out.str a HAM.out)
      by_cases hlt : j < n
      · have hjI : (j : Int) < (n : Int) := by omega
        have HJ := Lib.hid hlt
        go_upto_region 11 with (go_at_call 21; (with_reducible refine (ksign_calm M.out.m HC.out _ _ (List.mem_cons_self ..) (by rw [← HN.out]; exact HJ.out)).mono ?_); rintro e w9 ⟨vs, st9, rfl, hm, hc, hb, hk⟩; replace M := Lib.hid (M.out.sign hm hb hk); replace HC := Lib.hid hc; clear hm hc hb hk)
        go_upto_region 12 with (go_at_call 9; (with_reducible refine (HLF.out j HJ.out vs _ (M.out.m.fs.bytes (b := (vs, _)) (List.mem_cons_self ..))).mono ?_); rintro e w10 ⟨rfl, hb⟩; replace M := Lib.hid (M.out.call hb); clear hb)
        refine wp_region_T (fun w' => w'.heap[w.heap.size]? = some (.cells (parC (D : Int) (k : Int)) 25 (0, 0))) [13, 22, 23, 25] (by kernel_rfl) ?_
        replace M := Lib.hid (M.out.call (Below.refl _ _).drew)
        generalize w10.drew = w11 at *
        refine anyT_takeY (i := 0) (v := .nilIface) rfl (by kernel_rfl) (by kernel_rfl) (by kernel_rfl) (fun _ _ _ h => h) (by kernel_rfl) (Or.inl ⟨by rfl, by intro w; go_simp⟩) ?_
        try simp only [List.getElem_toArray, List.getElem_cons_succ, List.getElem_cons_zero, Act.put, List.setIfInBounds_toArray, List.set_cons_zero, List.set_cons_succ]
        refine anyT_takeY (i := 1) (v := .bool false) rfl (by kernel_rfl) (by kernel_rfl) (by kernel_rfl) (fun _ _ _ h => h) (by kernel_rfl) (Or.inl ⟨by rfl, by intro w; go_simp⟩) ?_
        try simp only [List.getElem_toArray, List.getElem_cons_succ, List.getElem_cons_zero, Act.put, List.setIfInBounds_toArray, List.set_cons_zero, List.set_cons_succ]
        refine anyT_takeY (i := 2) (v := .bool false) rfl (by kernel_rfl) (by kernel_rfl) (by kernel_rfl) (fun _ _ _ h => h) (by kernel_rfl) (Or.inl ⟨by rfl, by intro w; go_simp⟩) ?_
        try simp only [List.getElem_toArray, List.getElem_cons_succ, List.getElem_cons_zero, Act.put, List.setIfInBounds_toArray, List.set_cons_zero, List.set_cons_succ]
        refine anyT_takeY (i := 3) (v := .nilIface) rfl (by kernel_rfl) (by kernel_rfl) (by kernel_rfl) (fun _ _ _ h => h) (by kernel_rfl) (Or.inl ⟨by rfl, by intro w; go_simp⟩) ?_
        try simp only [List.getElem_toArray, List.getElem_cons_succ, List.getElem_cons_zero, Act.put, List.setIfInBounds_toArray, List.set_cons_zero, List.set_cons_succ]
        refine anyT_takeY (i := 4) (v := .bool false) rfl (by kernel_rfl) (by kernel_rfl) (by kernel_rfl) (fun _ _ _ h => h) (by kernel_rfl) (Or.inl ⟨by rfl, by intro w; go_simp⟩) ?_
        try simp only [List.getElem_toArray, List.getElem_cons_succ, List.getElem_cons_zero, Act.put, List.setIfInBounds_toArray, List.set_cons_zero, List.set_cons_succ]
        refine anyT_takeY (i := 5) (v := .bool false) rfl (by kernel_rfl) (by kernel_rfl) (by kernel_rfl) (fun _ _ _ h => h) (by kernel_rfl) (Or.inl ⟨by rfl, by intro w; go_simp⟩) ?_
        try simp only [List.getElem_toArray, List.getElem_cons_succ, List.getElem_cons_zero, Act.put, List.setIfInBounds_toArray, List.set_cons_zero, List.set_cons_succ]
        refine anyT_takeY (i := 6) (v := .bool false) rfl (by kernel_rfl) (by kernel_rfl) (by kernel_rfl) (fun _ _ _ h => h) (by kernel_rfl) (Or.inl ⟨by rfl, by intro w; go_simp⟩) ?_
        try simp only [List.getElem_toArray, List.getElem_cons_succ, List.getElem_cons_zero, Act.put, List.setIfInBounds_toArray, List.set_cons_zero, List.set_cons_succ]
        refine anyT_takeY (i := 7) (v := .int .i64 (j : Int)) rfl (by kernel_rfl) (by kernel_rfl) (by kernel_rfl) (fun _ _ _ h => h) (by kernel_rfl) (Or.inl ⟨by rfl, by intro w; go_simp⟩) ?_
        try simp only [List.getElem_toArray, List.getElem_cons_succ, List.getElem_cons_zero, Act.put, List.setIfInBounds_toArray, List.set_cons_zero, List.set_cons_succ]
        refine anyT_takeY (i := 8) (v := .int .i64 (j : Int)) rfl (by kernel_rfl) (by kernel_rfl) (by kernel_rfl) (fun _ _ _ h => h) (by kernel_rfl) (Or.inl ⟨by rfl, by intro w; go_simp⟩) ?_
        try simp only [List.getElem_toArray, List.getElem_cons_succ, List.getElem_cons_zero, Act.put, List.setIfInBounds_toArray, List.set_cons_zero, List.set_cons_succ]
        refine anyT_takeY (i := 9) (v := .bool false) rfl (by kernel_rfl) (by kernel_rfl) (by kernel_rfl) (fun _ _ _ h => h) (by kernel_rfl) (Or.inl ⟨by rfl, by intro w; go_simp⟩) ?_
        try simp only [List.getElem_toArray, List.getElem_cons_succ, List.getElem_cons_zero, Act.put, List.setIfInBounds_toArray, List.set_cons_zero, List.set_cons_succ]
        refine anyT_takeY (i := 10) (v := .bool false) rfl (by kernel_rfl) (by kernel_rfl) (by kernel_rfl) (fun _ _ _ h => h) (by kernel_rfl) (Or.inl ⟨by rfl, by intro w; go_simp⟩) ?_
        try simp only [List.getElem_toArray, List.getElem_cons_succ, List.getElem_cons_zero, Act.put, List.setIfInBounds_toArray, List.set_cons_zero, List.set_cons_succ]
        refine anyT_takeY (i := 11) (v := .bool false) rfl (by kernel_rfl) (by kernel_rfl) (by kernel_rfl) (fun _ _ _ h => h) (by kernel_rfl) (Or.inl ⟨by rfl, by intro w; go_simp⟩) ?_
        try simp only [List.getElem_toArray, List.getElem_cons_succ, List.getElem_cons_zero, Act.put, List.setIfInBounds_toArray, List.set_cons_zero, List.set_cons_succ]
        refine anyT_takeY (i := 12) (v := .pointer (some ⟨g, 0, none⟩)) rfl (by kernel_rfl) (by kernel_rfl) (by kernel_rfl) (fun _ _ _ h => h) (by kernel_rfl) (Or.inl ⟨by rfl, by intro w; go_simp⟩) ?_
        try simp only [List.getElem_toArray, List.getElem_cons_succ, List.getElem_cons_zero, Act.put, List.setIfInBounds_toArray, List.set_cons_zero, List.set_cons_succ]
        refine anyT_takeY (i := 14) (v := .int .i64 (n : Int)) rfl (by kernel_rfl) (by kernel_rfl) (by kernel_rfl) (fun _ _ _ h => h) (by kernel_rfl) (Or.inl ⟨by rfl, by intro w; go_simp⟩) ?_
        try simp only [List.getElem_toArray, List.getElem_cons_succ, List.getElem_cons_zero, Act.put, List.setIfInBounds_toArray, List.set_cons_zero, List.set_cons_succ]
        refine anyT_takeY (i := 15) (v := .int .i64 ((n : Int) - 1)) rfl (by kernel_rfl) (by kernel_rfl) (by kernel_rfl) (fun _ _ _ h => h) (by kernel_rfl) (Or.inl ⟨by rfl, by intro w; go_simp; exact IntWalk.i64_in _ (by omega)⟩) ?_
        try simp only [List.getElem_toArray, List.getElem_cons_succ, List.getElem_cons_zero, Act.put, List.setIfInBounds_toArray, List.set_cons_zero, List.set_cons_succ]
        refine anyT_takeY (i := 16) (v := .int .i64 (j : Int)) rfl (by kernel_rfl) (by kernel_rfl) (by kernel_rfl) (fun _ _ _ h => h) (by kernel_rfl) (Or.inl ⟨by rfl, by intro w; go_simp⟩) ?_
        try simp only [List.getElem_toArray, List.getElem_cons_succ, List.getElem_cons_zero, Act.put, List.setIfInBounds_toArray, List.set_cons_zero, List.set_cons_succ]
        refine anyT_takeY (i := 17) (v := .int .i64 ((n : Int) - 1 - j)) rfl (by kernel_rfl) (by kernel_rfl) (by kernel_rfl) (fun _ _ _ h => h) (by kernel_rfl) (Or.inl ⟨by rfl, by intro w; go_simp; exact IntWalk.i64_in _ (by omega)⟩) ?_
        try simp only [List.getElem_toArray, List.getElem_cons_succ, List.getElem_cons_zero, Act.put, List.setIfInBounds_toArray, List.set_cons_zero, List.set_cons_succ]
        refine anyT_one (i := 13) (by kernel_rfl) rfl (fun K hK => ?_)
        rw [if_pos (by rfl)]
        try simp only [List.getElem_toArray, List.getElem_cons_succ, List.getElem_cons_zero]
        (go_simp; refine (HLT2.out _ _ _ _ M.out.m HJ.out).mono ?_; rintro e w12 ⟨rfl, hb⟩; replace M := Lib.hid (M.out.call hb); clear hb)
        refine hK _ _ (fun _ => M.out.par) ?_
        clear hK K
        try simp only [List.getElem_toArray, List.getElem_cons_succ, List.getElem_cons_zero, Act.put, List.setIfInBounds_toArray, List.set_cons_zero, List.set_cons_succ]
        refine anyT_takeY (i := 18) (v := .bool false) rfl (by kernel_rfl) (by kernel_rfl) (by kernel_rfl) (fun _ _ _ h => h) (by kernel_rfl) (Or.inl ⟨by rfl, by intro w; go_simp⟩) ?_
        try simp only [List.getElem_toArray, List.getElem_cons_succ, List.getElem_cons_zero, Act.put, List.setIfInBounds_toArray, List.set_cons_zero, List.set_cons_succ]
        refine anyT_takeY (i := 19) (v := .bool false) rfl (by kernel_rfl) (by kernel_rfl) (by kernel_rfl) (fun _ _ _ h => h) (by kernel_rfl) (Or.inl ⟨by rfl, by intro w; go_simp⟩) ?_
        try simp only [List.getElem_toArray, List.getElem_cons_succ, List.getElem_cons_zero, Act.put, List.setIfInBounds_toArray, List.set_cons_zero, List.set_cons_succ]
        refine anyT_takeY (i := 20) (v := .bool false) rfl (by kernel_rfl) (by kernel_rfl) (by kernel_rfl) (fun _ _ _ h => h) (by kernel_rfl) (Or.inl ⟨by rfl, by intro w; go_simp⟩) ?_
        try simp only [List.getElem_toArray, List.getElem_cons_succ, List.getElem_cons_zero, Act.put, List.setIfInBounds_toArray, List.set_cons_zero, List.set_cons_succ]
        refine anyT_takeY (i := 21) (v := .pointer (some ⟨g, 0, none⟩)) rfl (by kernel_rfl) (by kernel_rfl) (by kernel_rfl) (fun _ _ _ h => h) (by kernel_rfl) (Or.inl ⟨by rfl, by intro w; go_simp⟩) ?_
        try simp only [List.getElem_toArray, List.getElem_cons_succ, List.getElem_cons_zero, Act.put, List.setIfInBounds_toArray, List.set_cons_zero, List.set_cons_succ]
        refine anyT_takeY (i := 24) (v := .string a) rfl (by kernel_rfl) (by kernel_rfl) (by kernel_rfl) (fun _ _ _ h => h) (by kernel_rfl) (Or.inl ⟨by rfl, by intro w; go_simp⟩) ?_
        try simp only [List.getElem_toArray, List.getElem_cons_succ, List.getElem_cons_zero, Act.put, List.setIfInBounds_toArray, List.set_cons_zero, List.set_cons_succ]
        refine anyT_takeY (i := 26) (v := vs) rfl (by kernel_rfl) (by kernel_rfl) (by kernel_rfl) (fun _ _ _ h => h) (by kernel_rfl) (Or.inl ⟨by rfl, by intro w; go_simp⟩) ?_
        try simp only [List.getElem_toArray, List.getElem_cons_succ, List.getElem_cons_zero, Act.put, List.setIfInBounds_toArray, List.set_cons_zero, List.set_cons_succ]
        refine anyT_take [27, 28, 29] (i := 23) (v := .agg (parC (D : Int) (k : Int))) rfl (by kernel_rfl) (by kernel_rfl) (by kernel_rfl) (fun _ _ _ h => h) (by kernel_rfl) (kagg_yields (by rfl) 25 (.tmp 7) rfl w.heap.size rfl (parC (D : Int) (k : Int)) _ (fun _ h => h) Tryz.underlying25 rfl (by kernel_rfl)) M.out.par ?_
        try simp only [List.getElem_toArray, List.getElem_cons_succ, List.getElem_cons_zero, Act.put, List.setIfInBounds_toArray, List.set_cons_zero, List.set_cons_succ]
        refine anyT_ready (rs := [22, 25]) (by kernel_rfl) (by simp) ?_
        refine readyT_cons rfl (fun K hK => ?_) (readyT_cons rfl (fun K hK => ?_) readyT_nil)
        · rw [if_pos (by rfl)]
          try simp only [List.getElem_toArray, List.getElem_cons_succ, List.getElem_cons_zero]
          (go_simp; refine (HSR.out _ _ _ _ M.out.m).mono ?_; rintro e w13 ⟨rfl, hb⟩; replace M := Lib.hid (M.out.call hb); clear hb)
          refine hK _ _ (fun _ => M.out.par) ?_
          clear hK K
          try simp only [List.getElem_toArray, List.getElem_cons_succ, List.getElem_cons_zero, Act.put, List.setIfInBounds_toArray, List.set_cons_zero, List.set_cons_succ]
          refine anyT_one (i := 25) (by kernel_rfl) rfl (fun K hK => ?_)
          rw [if_pos (by rfl)]
          try simp only [List.getElem_toArray, List.getElem_cons_succ, List.getElem_cons_zero]
          (go_simp; replace M := Lib.hid (M.out.str a HAM.out))
          refine hK _ _ (fun _ => M.out.par) ?_
          clear hK K
          try simp only [List.getElem_toArray, List.getElem_cons_succ, List.getElem_cons_zero, Act.put, List.setIfInBounds_toArray, List.set_cons_zero, List.set_cons_succ]
          generalize Value.slice (some ⟨w13.heap.size, 0, none⟩) a.size (grownCap w13 a.size 0 5) = vt at *
          generalize bytesW w13 a = w14 at *
          refine anyT_one (i := 27) (by kernel_rfl) rfl (fun K hK => ?_)
          rw [if_pos (by rfl)]
          try simp only [List.getElem_toArray, List.getElem_cons_succ, List.getElem_cons_zero]
          (go_simp; refine (HVF.out j HJ.out vt vs _ M.out.m.env.env (M.out.m.fs.bytes (b := (vt, _)) (List.mem_cons_self ..)) (M.out.m.fs.bytes (b := (vs, _)) (List.mem_cons_of_mem _ (List.mem_cons_self ..)))).mono ?_; rintro e w15 ⟨rfl, hb⟩; replace M := Lib.hid (M.out.call hb); clear hb)
          refine hK _ _ (not_mem rfl) ?_
          clear hK K
          try simp only [List.getElem_toArray, List.getElem_cons_succ, List.getElem_cons_zero, Act.put, List.setIfInBounds_toArray, List.set_cons_zero, List.set_cons_succ]
          refine anyT_takeY (i := 28) (v := .bool false) rfl (by kernel_rfl) (by kernel_rfl) (by kernel_rfl) (fun _ _ _ h => h) (by kernel_rfl) (Or.inl ⟨by rfl, by intro w; go_simp⟩) ?_
          try simp only [List.getElem_toArray, List.getElem_cons_succ, List.getElem_cons_zero, Act.put, List.setIfInBounds_toArray, List.set_cons_zero, List.set_cons_succ]
          refine anyT_takeY (i := 29) (v := .bool false) rfl (by kernel_rfl) (by kernel_rfl) (by kernel_rfl) (fun _ _ _ h => h) (by kernel_rfl) (Or.inl ⟨by rfl, by intro w; go_simp⟩) ?_
          try simp only [List.getElem_toArray, List.getElem_cons_succ, List.getElem_cons_zero, Act.put, List.setIfInBounds_toArray, List.set_cons_zero, List.set_cons_succ]
          refine anyT_done (by kernel_rfl) ?_ _
          go_upto_region 14 with (fail)
          obtain ⟨bb, hbb⟩ : ∃ bb, eqB RB RA = bb := ⟨_, rfl⟩
          have hneq : ∀ w, (binOp .neq 23 (.agg (rowOf .u8 32 RB)) (.agg (rowOf .u8 32 RA))).run Tryz.prog w = .ok (.bool (!bb)) w := fun w => by rw [← hbb]; exact neq32 RB RA w
          have HBBB := Lib.hid hbb
          clear hbb
          cases bb with
          | true =>
            simp only [Bool.not_true] at hneq
            refine wp_region_T (fun w' => RowAt w' h .u8 32 23 RB) [0, 2] (by kernel_rfl) ?_
            replace M := Lib.hid (M.out.call (Below.refl _ _).drew)
            generalize w15.drew = w16 at *
            refine anyT_takeY (i := 1) (v := .pointer (some ⟨g, 0, none⟩)) rfl (by kernel_rfl) (by kernel_rfl) (by kernel_rfl) (fun _ _ _ h => h) (by kernel_rfl) (Or.inl ⟨by rfl, by intro w; go_simp⟩) ?_
            try simp only [List.getElem_toArray, List.getElem_cons_succ, List.getElem_cons_zero, Act.put, List.setIfInBounds_toArray, List.set_cons_zero, List.set_cons_succ]
            refine anyT_take [3, 4, 5, 6, 7, 8, 9, 10, 11, 12] (i := 0) (v := .agg (rowOf .u8 32 RB)) rfl (by kernel_rfl) (by kernel_rfl) (by kernel_rfl) (fun _ _ _ h => h) (by kernel_rfl) (row_yields (by rfl) 23 (.tmp 10) rfl h rfl .u8 32 RB _ (fun _ h => h) Tryz.underlying23 rfl (by kernel_rfl)) M.out.row ?_
            try simp only [List.getElem_toArray, List.getElem_cons_succ, List.getElem_cons_zero, Act.put, List.setIfInBounds_toArray, List.set_cons_zero, List.set_cons_succ]
            refine anyT_one (i := 2) (by kernel_rfl) rfl (fun K hK => ?_)
            rw [if_pos (by rfl)]
            try simp only [List.getElem_toArray, List.getElem_cons_succ, List.getElem_cons_zero]
            (go_simp; refine (HSR.out _ _ _ _ M.out.m).mono ?_; rintro e w17 ⟨rfl, hb⟩; replace M := Lib.hid (M.out.call hb); clear hb)
            refine hK _ _ (fun _ => M.out.row) ?_
            clear hK K
            try simp only [List.getElem_toArray, List.getElem_cons_succ, List.getElem_cons_zero, Act.put, List.setIfInBounds_toArray, List.set_cons_zero, List.set_cons_succ]
            refine anyT_takeY (i := 3) (v := .bool false) rfl (by kernel_rfl) (by kernel_rfl) (by kernel_rfl) (fun _ _ _ h => h) (by kernel_rfl) (Or.inl ⟨by rfl, by intro w; go_simp⟩) ?_
            try simp only [List.getElem_toArray, List.getElem_cons_succ, List.getElem_cons_zero, Act.put, List.setIfInBounds_toArray, List.set_cons_zero, List.set_cons_succ]
            refine anyT_takeY (i := 4) (v := .bool false) rfl (by kernel_rfl) (by kernel_rfl) (by kernel_rfl) (fun _ _ _ h => h) (by kernel_rfl) (Or.inl ⟨by rfl, by intro w; go_simp⟩) ?_
            try simp only [List.getElem_toArray, List.getElem_cons_succ, List.getElem_cons_zero, Act.put, List.setIfInBounds_toArray, List.set_cons_zero, List.set_cons_succ]
            refine anyT_takeY (i := 5) (v := undef) rfl (by kernel_rfl) (by kernel_rfl) (by kernel_rfl) (fun _ _ _ h => h) (by kernel_rfl) (Or.inr ⟨by rfl, rfl⟩) ?_
            try simp only [List.getElem_toArray, List.getElem_cons_succ, List.getElem_cons_zero, Act.put, List.setIfInBounds_toArray, List.set_cons_zero, List.set_cons_succ]
            refine anyT_takeY (i := 6) (v := undef) rfl (by kernel_rfl) (by kernel_rfl) (by kernel_rfl) (fun _ _ _ h => h) (by kernel_rfl) (Or.inr ⟨by rfl, rfl⟩) ?_
            try simp only [List.getElem_toArray, List.getElem_cons_succ, List.getElem_cons_zero, Act.put, List.setIfInBounds_toArray, List.set_cons_zero, List.set_cons_succ]
            refine anyT_takeY (i := 7) (v := undef) rfl (by kernel_rfl) (by kernel_rfl) (by kernel_rfl) (fun _ _ _ h => h) (by kernel_rfl) (Or.inr ⟨by rfl, rfl⟩) ?_
            try simp only [List.getElem_toArray, List.getElem_cons_succ, List.getElem_cons_zero, Act.put, List.setIfInBounds_toArray, List.set_cons_zero, List.set_cons_succ]
            refine anyT_takeY (i := 8) (v := undef) rfl (by kernel_rfl) (by kernel_rfl) (by kernel_rfl) (fun _ _ _ h => h) (by kernel_rfl) (Or.inr ⟨by rfl, rfl⟩) ?_
            try simp only [List.getElem_toArray, List.getElem_cons_succ, List.getElem_cons_zero, Act.put, List.setIfInBounds_toArray, List.set_cons_zero, List.set_cons_succ]
            refine anyT_takeY (i := 9) (v := undef) rfl (by kernel_rfl) (by kernel_rfl) (by kernel_rfl) (fun _ _ _ h => h) (by kernel_rfl) (Or.inr ⟨by rfl, rfl⟩) ?_
            try simp only [List.getElem_toArray, List.getElem_cons_succ, List.getElem_cons_zero, Act.put, List.setIfInBounds_toArray, List.set_cons_zero, List.set_cons_succ]
            refine anyT_takeY (i := 10) (v := undef) rfl (by kernel_rfl) (by kernel_rfl) (by kernel_rfl) (fun _ _ _ h => h) (by kernel_rfl) (Or.inr ⟨by rfl, rfl⟩) ?_
            try simp only [List.getElem_toArray, List.getElem_cons_succ, List.getElem_cons_zero, Act.put, List.setIfInBounds_toArray, List.set_cons_zero, List.set_cons_succ]
            refine anyT_takeY (i := 11) (v := undef) rfl (by kernel_rfl) (by kernel_rfl) (by kernel_rfl) (fun _ _ _ h => h) (by kernel_rfl) (Or.inr ⟨by rfl, rfl⟩) ?_
            try simp only [List.getElem_toArray, List.getElem_cons_succ, List.getElem_cons_zero, Act.put, List.setIfInBounds_toArray, List.set_cons_zero, List.set_cons_succ]
            refine anyT_takeY (i := 12) (v := .bool false) rfl (by kernel_rfl) (by kernel_rfl) (by kernel_rfl) (fun _ _ _ h => h) (by kernel_rfl) (Or.inl ⟨by rfl, by intro w; go_simp⟩) ?_
            try simp only [List.getElem_toArray, List.getElem_cons_succ, List.getElem_cons_zero, Act.put, List.setIfInBounds_toArray, List.set_cons_zero, List.set_cons_succ]
            refine anyT_done (by kernel_rfl) ?_ _
            go_wp2_with (fail)
            go_roundw
            case rel => exact ⟨j + 1, st9, _, by omega, by go_num, M, HC⟩
            case measure => simp [intOf]; omega
          | false =>
            simp only [Bool.not_false] at hneq
            refine wp_region_T (fun w' => w'.heap[w.heap.size]? = some (.cells (parC (D : Int) (k : Int)) 25 (0, 0)) ∧ RowAt w' h .u8 32 23 RB) [0, 2, 5, 6, 8] (by kernel_rfl) ?_
            replace M := Lib.hid (M.out.call (Below.refl _ _).drew)
            generalize w15.drew = w16 at *
            refine anyT_takeY (i := 1) (v := .pointer (some ⟨g, 0, none⟩)) rfl (by kernel_rfl) (by kernel_rfl) (by kernel_rfl) (fun _ _ _ h => h) (by kernel_rfl) (Or.inl ⟨by rfl, by intro w; go_simp⟩) ?_
            try simp only [List.getElem_toArray, List.getElem_cons_succ, List.getElem_cons_zero, Act.put, List.setIfInBounds_toArray, List.set_cons_zero, List.set_cons_succ]
            refine anyT_take [3, 4, 7, 9, 10, 11, 12] (i := 0) (v := .agg (rowOf .u8 32 RB)) rfl (by kernel_rfl) (by kernel_rfl) (by kernel_rfl) (fun _ _ _ h => h) (by kernel_rfl) (row_yields (by rfl) 23 (.tmp 10) rfl h rfl .u8 32 RB _ (fun _ h => h.2) Tryz.underlying23 rfl (by kernel_rfl)) ⟨M.out.par, M.out.row⟩ ?_
            try simp only [List.getElem_toArray, List.getElem_cons_succ, List.getElem_cons_zero, Act.put, List.setIfInBounds_toArray, List.set_cons_zero, List.set_cons_succ]
            refine anyT_one (i := 2) (by kernel_rfl) rfl (fun K hK => ?_)
            rw [if_pos (by rfl)]
            try simp only [List.getElem_toArray, List.getElem_cons_succ, List.getElem_cons_zero]
            (go_simp; refine (HSR.out _ _ _ _ M.out.m).mono ?_; rintro e w17 ⟨rfl, hb⟩; replace M := Lib.hid (M.out.call hb); clear hb)
            refine hK _ _ (fun _ => ⟨M.out.par, M.out.row⟩) ?_
            clear hK K
            try simp only [List.getElem_toArray, List.getElem_cons_succ, List.getElem_cons_zero, Act.put, List.setIfInBounds_toArray, List.set_cons_zero, List.set_cons_succ]
            refine anyT_takeY (i := 3) (v := .bool true) rfl (by kernel_rfl) (by kernel_rfl) (by kernel_rfl) (fun _ _ _ h => h) (by kernel_rfl) (Or.inl ⟨by rfl, by intro w; go_simp⟩) ?_
            try simp only [List.getElem_toArray, List.getElem_cons_succ, List.getElem_cons_zero, Act.put, List.setIfInBounds_toArray, List.set_cons_zero, List.set_cons_succ]
            refine anyT_takeY (i := 4) (v := .bool true) rfl (by kernel_rfl) (by kernel_rfl) (by kernel_rfl) (fun _ _ _ h => h) (by kernel_rfl) (Or.inl ⟨by rfl, by intro w; go_simp⟩) ?_
            try simp only [List.getElem_toArray, List.getElem_cons_succ, List.getElem_cons_zero, Act.put, List.setIfInBounds_toArray, List.set_cons_zero, List.set_cons_succ]
            refine anyT_takeY (i := 7) (v := .string a) rfl (by kernel_rfl) (by kernel_rfl) (by kernel_rfl) (fun _ _ _ h => h) (by kernel_rfl) (Or.inl ⟨by rfl, by intro w; go_simp⟩) ?_
            try simp only [List.getElem_toArray, List.getElem_cons_succ, List.getElem_cons_zero, Act.put, List.setIfInBounds_toArray, List.set_cons_zero, List.set_cons_succ]
            refine anyT_takeY (i := 9) (v := vs) rfl (by kernel_rfl) (by kernel_rfl) (by kernel_rfl) (fun _ _ _ h => h) (by kernel_rfl) (Or.inl ⟨by rfl, by intro w; go_simp⟩) ?_
            try simp only [List.getElem_toArray, List.getElem_cons_succ, List.getElem_cons_zero, Act.put, List.setIfInBounds_toArray, List.set_cons_zero, List.set_cons_succ]
            refine anyT_take [10, 11, 12] (i := 5) (v := .agg (rowOf .u8 32 RB)) rfl (by kernel_rfl) (by kernel_rfl) (by kernel_rfl) (fun _ _ _ h => h) (by kernel_rfl) (row_yields (by rfl) 23 (.tmp 10) rfl h rfl .u8 32 RB _ (fun _ h => h.2) Tryz.underlying23 rfl (by kernel_rfl)) ⟨M.out.par, M.out.row⟩ ?_
            try simp only [List.getElem_toArray, List.getElem_cons_succ, List.getElem_cons_zero, Act.put, List.setIfInBounds_toArray, List.set_cons_zero, List.set_cons_succ]
            refine anyT_take [10, 11, 12] (i := 6) (v := .agg (parC (D : Int) (k : Int))) rfl (by kernel_rfl) (by kernel_rfl) (by kernel_rfl) (fun _ _ _ h => h) (by kernel_rfl) (kagg_yields (by rfl) 25 (.tmp 7) rfl w.heap.size rfl (parC (D : Int) (k : Int)) _ (fun _ h => h.1) Tryz.underlying25 rfl (by kernel_rfl)) ⟨M.out.par, M.out.row⟩ ?_
            try simp only [List.getElem_toArray, List.getElem_cons_succ, List.getElem_cons_zero, Act.put, List.setIfInBounds_toArray, List.set_cons_zero, List.set_cons_succ]
            refine anyT_one (i := 8) (by kernel_rfl) rfl (fun K hK => ?_)
            rw [if_pos (by rfl)]
            try simp only [List.getElem_toArray, List.getElem_cons_succ, List.getElem_cons_zero]
            (go_simp; replace M := Lib.hid (M.out.str a HAM.out))
            refine hK _ _ (fun _ => ⟨M.out.par, M.out.row⟩) ?_
            clear hK K
            try simp only [List.getElem_toArray, List.getElem_cons_succ, List.getElem_cons_zero, Act.put, List.setIfInBounds_toArray, List.set_cons_zero, List.set_cons_succ]
            generalize Value.slice (some ⟨w17.heap.size, 0, none⟩) a.size (grownCap w17 a.size 0 5) = vu at *
            generalize bytesW w17 a = w18 at *
            refine anyT_one (i := 10) (by kernel_rfl) rfl (fun K hK => ?_)
            rw [if_pos (by rfl)]
            try simp only [List.getElem_toArray, List.getElem_cons_succ, List.getElem_cons_zero]
            (go_simp; refine (HVO.out HBBB.out j HJ.out vu vs _ M.out.m.env.env (M.out.m.fs.bytes (b := (vu, _)) (List.mem_cons_self ..)) (M.out.m.fs.bytes (b := (vs, _)) (List.mem_cons_of_mem _ (List.mem_cons_of_mem _ (List.mem_cons_self ..))))).mono ?_; rintro e w19 ⟨rfl, hb⟩; replace M := Lib.hid (M.out.call hb); clear hb)
            refine hK _ _ (not_mem rfl) ?_
            clear hK K
            try simp only [List.getElem_toArray, List.getElem_cons_succ, List.getElem_cons_zero, Act.put, List.setIfInBounds_toArray, List.set_cons_zero, List.set_cons_succ]
            refine anyT_takeY (i := 11) (v := .bool false) rfl (by kernel_rfl) (by kernel_rfl) (by kernel_rfl) (fun _ _ _ h => h) (by kernel_rfl) (Or.inl ⟨by rfl, by intro w; go_simp⟩) ?_
            try simp only [List.getElem_toArray, List.getElem_cons_succ, List.getElem_cons_zero, Act.put, List.setIfInBounds_toArray, List.set_cons_zero, List.set_cons_succ]
            refine anyT_takeY (i := 12) (v := .bool false) rfl (by kernel_rfl) (by kernel_rfl) (by kernel_rfl) (fun _ _ _ h => h) (by kernel_rfl) (Or.inl ⟨by rfl, by intro w; go_simp⟩) ?_
            try simp only [List.getElem_toArray, List.getElem_cons_succ, List.getElem_cons_zero, Act.put, List.setIfInBounds_toArray, List.set_cons_zero, List.set_cons_succ]
            refine anyT_done (by kernel_rfl) ?_ _
            go_wp2_with (fail)
            go_roundw
            case rel => exact ⟨j + 1, st9, _, by omega, by go_num, M, HC⟩
            case measure => simp [intOf]; omega
        · rw [if_pos (by rfl)]
          try simp only [List.getElem_toArray, List.getElem_cons_succ, List.getElem_cons_zero]
          (go_simp; replace M := Lib.hid (M.out.str a HAM.out))
          refine hK _ _ (fun _ => M.out.par) ?_
          clear hK K
          try simp only [List.getElem_toArray, List.getElem_cons_succ, List.getElem_cons_zero, Act.put, List.setIfInBounds_toArray, List.set_cons_zero, List.set_cons_succ]
          generalize Value.slice (some ⟨w12.heap.size, 0, none⟩) a.size (grownCap w12 a.size 0 5) = vt at *
          generalize bytesW w12 a = w13 at *
          refine anyT_one (i := 22) (by kernel_rfl) rfl (fun K hK => ?_)
          rw [if_pos (by rfl)]
          try simp only [List.getElem_toArray, List.getElem_cons_succ, List.getElem_cons_zero]
          (go_simp; refine (HSR.out _ _ _ _ M.out.m).mono ?_; rintro e w14 ⟨rfl, hb⟩; replace M := Lib.hid (M.out.call hb); clear hb)
          refine hK _ _ (fun _ => M.out.par) ?_
          clear hK K
          try simp only [List.getElem_toArray, List.getElem_cons_succ, List.getElem_cons_zero, Act.put, List.setIfInBounds_toArray, List.set_cons_zero, List.set_cons_succ]
          refine anyT_one (i := 27) (by kernel_rfl) rfl (fun K hK => ?_)
          rw [if_pos (by rfl)]
          try simp only [List.getElem_toArray, List.getElem_cons_succ, List.getElem_cons_zero]
          (go_simp; refine (HVF.out j HJ.out vt vs _ M.out.m.env.env (M.out.m.fs.bytes (b := (vt, _)) (List.mem_cons_self ..)) (M.out.m.fs.bytes (b := (vs, _)) (List.mem_cons_of_mem _ (List.mem_cons_self ..)))).mono ?_; rintro e w15 ⟨rfl, hb⟩; replace M := Lib.hid (M.out.call hb); clear hb)
          refine hK _ _ (not_mem rfl) ?_
          clear hK K
          try simp only [List.getElem_toArray, List.getElem_cons_succ, List.getElem_cons_zero, Act.put, List.setIfInBounds_toArray, List.set_cons_zero, List.set_cons_succ]
          refine anyT_takeY (i := 28) (v := .bool false) rfl (by kernel_rfl) (by kernel_rfl) (by kernel_rfl) (fun _ _ _ h => h) (by kernel_rfl) (Or.inl ⟨by rfl, by intro w; go_simp⟩) ?_
          try simp only [List.getElem_toArray, List.getElem_cons_succ, List.getElem_cons_zero, Act.put, List.setIfInBounds_toArray, List.set_cons_zero, List.set_cons_succ]
          refine anyT_takeY (i := 29) (v := .bool false) rfl (by kernel_rfl) (by kernel_rfl) (by kernel_rfl) (fun _ _ _ h => h) (by kernel_rfl) (Or.inl ⟨by rfl, by intro w; go_simp⟩) ?_
          try simp only [List.getElem_toArray, List.getElem_cons_succ, List.getElem_cons_zero, Act.put, List.setIfInBounds_toArray, List.set_cons_zero, List.set_cons_succ]
          refine anyT_done (by kernel_rfl) ?_ _
          go_upto_region 14 with (fail)
          obtain ⟨bb, hbb⟩ : ∃ bb, eqB RB RA = bb := ⟨_, rfl⟩
          have hneq : ∀ w, (binOp .neq 23 (.agg (rowOf .u8 32 RB)) (.agg (rowOf .u8 32 RA))).run Tryz.prog w = .ok (.bool (!bb)) w := fun w => by rw [← hbb]; exact neq32 RB RA w
          have HBBB := Lib.hid hbb
          clear hbb
          cases bb with
          | true =>
            simp only [Bool.not_true] at hneq
            refine wp_region_T (fun w' => RowAt w' h .u8 32 23 RB) [0, 2] (by kernel_rfl) ?_
            replace M := Lib.hid (M.out.call (Below.refl _ _).drew)
            generalize w15.drew = w16 at *
            refine anyT_takeY (i := 1) (v := .pointer (some ⟨g, 0, none⟩)) rfl (by kernel_rfl) (by kernel_rfl) (by kernel_rfl) (fun _ _ _ h => h) (by kernel_rfl) (Or.inl ⟨by rfl, by intro w; go_simp⟩) ?_
            try simp only [List.getElem_toArray, List.getElem_cons_succ, List.getElem_cons_zero, Act.put, List.setIfInBounds_toArray, List.set_cons_zero, List.set_cons_succ]
            refine anyT_take [3, 4, 5, 6, 7, 8, 9, 10, 11, 12] (i := 0) (v := .agg (rowOf .u8 32 RB)) rfl (by kernel_rfl) (by kernel_rfl) (by kernel_rfl) (fun _ _ _ h => h) (by kernel_rfl) (row_yields (by rfl) 23 (.tmp 10) rfl h rfl .u8 32 RB _ (fun _ h => h) Tryz.underlying23 rfl (by kernel_rfl)) M.out.row ?_
            try simp only [List.getElem_toArray, List.getElem_cons_succ, List.getElem_cons_zero, Act.put, List.setIfInBounds_toArray, List.set_cons_zero, List.set_cons_succ]
            refine anyT_one (i := 2) (by kernel_rfl) rfl (fun K hK => ?_)
            rw [if_pos (by rfl)]
            try simp only [List.getElem_toArray, List.getElem_cons_succ, List.getElem_cons_zero]
            (go_simp; refine (HSR.out _ _ _ _ M.out.m).mono ?_; rintro e w17 ⟨rfl, hb⟩; replace M := Lib.hid (M.out.call hb); clear hb)
            refine hK _ _ (fun _ => M.out.row) ?_
            clear hK K
            try simp only [List.getElem_toArray, List.getElem_cons_succ, List.getElem_cons_zero, Act.put, List.setIfInBounds_toArray, List.set_cons_zero, List.set_cons_succ]
            refine anyT_takeY (i := 3) (v := .bool false) rfl (by kernel_rfl) (by kernel_rfl) (by kernel_rfl) (fun _ _ _ h => h) (by kernel_rfl) (Or.inl ⟨by rfl, by intro w; go_simp⟩) ?_
            try simp only [List.getElem_toArray, List.getElem_cons_succ, List.getElem_cons_zero, Act.put, List.setIfInBounds_toArray, List.set_cons_zero, List.set_cons_succ]
            refine anyT_takeY (i := 4) (v := .bool false) rfl (by kernel_rfl) (by kernel_rfl) (by kernel_rfl) (fun _ _ _ h => h) (by kernel_rfl) (Or.inl ⟨by rfl, by intro w; go_simp⟩) ?_
            try simp only [List.getElem_toArray, List.getElem_cons_succ, List.getElem_cons_zero, Act.put, List.setIfInBounds_toArray, List.set_cons_zero, List.set_cons_succ]
            refine anyT_takeY (i := 5) (v := undef) rfl (by kernel_rfl) (by kernel_rfl) (by kernel_rfl) (fun _ _ _ h => h) (by kernel_rfl) (Or.inr ⟨by rfl, rfl⟩) ?_
            try simp only [List.getElem_toArray, List.getElem_cons_succ, List.getElem_cons_zero, Act.put, List.setIfInBounds_toArray, List.set_cons_zero, List.set_cons_succ]
            refine anyT_takeY (i := 6) (v := undef) rfl (by kernel_rfl) (by kernel_rfl) (by kernel_rfl) (fun _ _ _ h => h) (by kernel_rfl) (Or.inr ⟨by rfl, rfl⟩) ?_
            try simp only [List.getElem_toArray, List.getElem_cons_succ, List.getElem_cons_zero, Act.put, List.setIfInBounds_toArray, List.set_cons_zero, List.set_cons_succ]
            refine anyT_takeY (i := 7) (v := undef) rfl (by kernel_rfl) (by kernel_rfl) (by kernel_rfl) (fun _ _ _ h => h) (by kernel_rfl) (Or.inr ⟨by rfl, rfl⟩) ?_
            try simp only [List.getElem_toArray, List.getElem_cons_succ, List.getElem_cons_zero, Act.put, List.setIfInBounds_toArray, List.set_cons_zero, List.set_cons_succ]
            refine anyT_takeY (i := 8) (v := undef) rfl (by kernel_rfl) (by kernel_rfl) (by kernel_rfl) (fun _ _ _ h => h) (by kernel_rfl) (Or.inr ⟨by rfl, rfl⟩) ?_
            try simp only [List.getElem_toArray, List.getElem_cons_succ, List.getElem_cons_zero, Act.put, List.setIfInBounds_toArray, List.set_cons_zero, List.set_cons_succ]
            refine anyT_takeY (i := 9) (v := undef) rfl (by kernel_rfl) (by kernel_rfl) (by kernel_rfl) (fun _ _ _ h => h) (by kernel_rfl) (Or.inr ⟨by rfl, rfl⟩) ?_
            try simp only [List.getElem_toArray, List.getElem_cons_succ, List.getElem_cons_zero, Act.put, List.setIfInBounds_toArray, List.set_cons_zero, List.set_cons_succ]
            refine anyT_takeY (i := 10) (v := undef) rfl (by kernel_rfl) (by kernel_rfl) (by kernel_rfl) (fun _ _ _ h => h) (by kernel_rfl) (Or.inr ⟨by rfl, rfl⟩) ?_
            try simp only [List.getElem_toArray, List.getElem_cons_succ, List.getElem_cons_zero, Act.put, List.setIfInBounds_toArray, List.set_cons_zero, List.set_cons_succ]
            refine anyT_takeY (i := 11) (v := undef) rfl (by kernel_rfl) (by kernel_rfl) (by kernel_rfl) (fun _ _ _ h => h) (by kernel_rfl) (Or.inr ⟨by rfl, rfl⟩) ?_
            try simp only [List.getElem_toArray, List.getElem_cons_succ, List.getElem_cons_zero, Act.put, List.setIfInBounds_toArray, List.set_cons_zero, List.set_cons_succ]
            refine anyT_takeY (i := 12) (v := .bool false) rfl (by kernel_rfl) (by kernel_rfl) (by kernel_rfl) (fun _ _ _ h => h) (by kernel_rfl) (Or.inl ⟨by rfl, by intro w; go_simp⟩) ?_
            try simp only [List.getElem_toArray, List.getElem_cons_succ, List.getElem_cons_zero, Act.put, List.setIfInBounds_toArray, List.set_cons_zero, List.set_cons_succ]
            refine anyT_done (by kernel_rfl) ?_ _
            go_wp2_with (fail)
            go_roundw
            case rel => exact ⟨j + 1, st9, _, by omega, by go_num, M, HC⟩
            case measure => simp [intOf]; omega
          | false =>
            simp only [Bool.not_false] at hneq
            refine wp_region_T (fun w' => w'.heap[w.heap.size]? = some (.cells (parC (D : Int) (k : Int)) 25 (0, 0)) ∧ RowAt w' h .u8 32 23 RB) [0, 2, 5, 6, 8] (by kernel_rfl) ?_
            replace M := Lib.hid (M.out.call (Below.refl _ _).drew)
            generalize w15.drew = w16 at *
            refine anyT_takeY (i := 1) (v := .pointer (some ⟨g, 0, none⟩)) rfl (by kernel_rfl) (by kernel_rfl) (by kernel_rfl) (fun _ _ _ h => h) (by kernel_rfl) (Or.inl ⟨by rfl, by intro w; go_simp⟩) ?_
            try simp only [List.getElem_toArray, List.getElem_cons_succ, List.getElem_cons_zero, Act.put, List.setIfInBounds_toArray, List.set_cons_zero, List.set_cons_succ]
            refine anyT_take [3, 4, 7, 9, 10, 11, 12] (i := 0) (v := .agg (rowOf .u8 32 RB)) rfl (by kernel_rfl) (by kernel_rfl) (by kernel_rfl) (fun _ _ _ h => h) (by kernel_rfl) (row_yields (by rfl) 23 (.tmp 10) rfl h rfl .u8 32 RB _ (fun _ h => h.2) Tryz.underlying23 rfl (by kernel_rfl)) ⟨M.out.par, M.out.row⟩ ?_
            try simp only [List.getElem_toArray, List.getElem_cons_succ, List.getElem_cons_zero, Act.put, List.setIfInBounds_toArray, List.set_cons_zero, List.set_cons_succ]
            refine anyT_one (i := 2) (by kernel_rfl) rfl (fun K hK => ?_)
            rw [if_pos (by rfl)]
            try simp only [List.getElem_toArray, List.getElem_cons_succ, List.getElem_cons_zero]
            (go_simp; refine (HSR.out _ _ _ _ M.out.m).mono ?_; rintro e w17 ⟨rfl, hb⟩; replace M := Lib.hid (M.out.call hb); clear hb)
            refine hK _ _ (fun _ => ⟨M.out.par, M.out.row⟩) ?_
            clear hK K
            try simp only [List.getElem_toArray, List.getElem_cons_succ, List.getElem_cons_zero, Act.put, List.setIfInBounds_toArray, List.set_cons_zero, List.set_cons_succ]
            refine anyT_takeY (i := 3) (v := .bool true) rfl (by kernel_rfl) (by kernel_rfl) (by kernel_rfl) (fun _ _ _ h => h) (by kernel_rfl) (Or.inl ⟨by rfl, by intro w; go_simp⟩) ?_
            try simp only [List.getElem_toArray, List.getElem_cons_succ, List.getElem_cons_zero, Act.put, List.setIfInBounds_toArray, List.set_cons_zero, List.set_cons_succ]
            refine anyT_takeY (i := 4) (v := .bool true) rfl (by kernel_rfl) (by kernel_rfl) (by kernel_rfl) (fun _ _ _ h => h) (by kernel_rfl) (Or.inl ⟨by rfl, by intro w; go_simp⟩) ?_
            try simp only [List.getElem_toArray, List.getElem_cons_succ, List.getElem_cons_zero, Act.put, List.setIfInBounds_toArray, List.set_cons_zero, List.set_cons_succ]
            refine anyT_takeY (i := 7) (v := .string a) rfl (by kernel_rfl) (by kernel_rfl) (by kernel_rfl) (fun _ _ _ h => h) (by kernel_rfl) (Or.inl ⟨by rfl, by intro w; go_simp⟩) ?_
            try simp only [List.getElem_toArray, List.getElem_cons_succ, List.getElem_cons_zero, Act.put, List.setIfInBounds_toArray, List.set_cons_zero, List.set_cons_succ]
            refine anyT_takeY (i := 9) (v := vs) rfl (by kernel_rfl) (by kernel_rfl) (by kernel_rfl) (fun _ _ _ h => h) (by kernel_rfl) (Or.inl ⟨by rfl, by intro w; go_simp⟩) ?_
            try simp only [List.getElem_toArray, List.getElem_cons_succ, List.getElem_cons_zero, Act.put, List.setIfInBounds_toArray, List.set_cons_zero, List.set_cons_succ]
            refine anyT_take [10, 11, 12] (i := 5) (v := .agg (rowOf .u8 32 RB)) rfl (by kernel_rfl) (by kernel_rfl) (by kernel_rfl) (fun _ _ _ h => h) (by kernel_rfl) (row_yields (by rfl) 23 (.tmp 10) rfl h rfl .u8 32 RB _ (fun _ h => h.2) Tryz.underlying23 rfl (by kernel_rfl)) ⟨M.out.par, M.out.row⟩ ?_
            try simp only [List.getElem_toArray, List.getElem_cons_succ, List.getElem_cons_zero, Act.put, List.setIfInBounds_toArray, List.set_cons_zero, List.set_cons_succ]
            refine anyT_take [10, 11, 12] (i := 6) (v := .agg (parC (D : Int) (k : Int))) rfl (by kernel_rfl) (by kernel_rfl) (by kernel_rfl) (fun _ _ _ h => h) (by kernel_rfl) (kagg_yields (by rfl) 25 (.tmp 7) rfl w.heap.size rfl (parC (D : Int) (k : Int)) _ (fun _ h => h.1) Tryz.underlying25 rfl (by kernel_rfl)) ⟨M.out.par, M.out.row⟩ ?_
            try simp only [List.getElem_toArray, List.getElem_cons_succ, List.getElem_cons_zero, Act.put, List.setIfInBounds_toArray, List.set_cons_zero, List.set_cons_succ]
            refine anyT_one (i := 8) (by kernel_rfl) rfl (fun K hK => ?_)
            rw [if_pos (by rfl)]
            try simp only [List.getElem_toArray, List.getElem_cons_succ, List.getElem_cons_zero]
            (go_simp; replace M := Lib.hid (M.out.str a HAM.out))
            refine hK _ _ (fun _ => ⟨M.out.par, M.out.row⟩) ?_
            clear hK K
            try simp only [List.getElem_toArray, List.getElem_cons_succ, List.getElem_cons_zero, Act.put, List.setIfInBounds_toArray, List.set_cons_zero, List.set_cons_succ]
            generalize Value.slice (some ⟨w17.heap.size, 0, none⟩) a.size (grownCap w17 a.size 0 5) = vu at *
            generalize bytesW w17 a = w18 at *
            refine anyT_one (i := 10) (by kernel_rfl) rfl (fun K hK => ?_)
            rw [if_pos (by rfl)]
            try simp only [List.getElem_toArray, List.getElem_cons_succ, List.getElem_cons_zero]
            (go_simp; refine (HVO.out HBBB.out j HJ.out vu vs _ M.out.m.env.env (M.out.m.fs.bytes (b := (vu, _)) (List.mem_cons_self ..)) (M.out.m.fs.bytes (b := (vs, _)) (List.mem_cons_of_mem _ (List.mem_cons_of_mem _ (List.mem_cons_self ..))))).mono ?_; rintro e w19 ⟨rfl, hb⟩; replace M := Lib.hid (M.out.call hb); clear hb)
            refine hK _ _ (not_mem rfl) ?_
            clear hK K
            try simp only [List.getElem_toArray, List.getElem_cons_succ, List.getElem_cons_zero, Act.put, List.setIfInBounds_toArray, List.set_cons_zero, List.set_cons_succ]
            refine anyT_takeY (i := 11) (v := .bool false) rfl (by kernel_rfl) (by kernel_rfl) (by kernel_rfl) (fun _ _ _ h => h) (by kernel_rfl) (Or.inl ⟨by rfl, by intro w; go_simp⟩) ?_
            try simp only [List.getElem_toArray, List.getElem_cons_succ, List.getElem_cons_zero, Act.put, List.setIfInBounds_toArray, List.set_cons_zero, List.set_cons_succ]
            refine anyT_takeY (i := 12) (v := .bool false) rfl (by kernel_rfl) (by kernel_rfl) (by kernel_rfl) (fun _ _ _ h => h) (by kernel_rfl) (Or.inl ⟨by rfl, by intro w; go_simp⟩) ?_
            try simp only [List.getElem_toArray, List.getElem_cons_succ, List.getElem_cons_zero, Act.put, List.setIfInBounds_toArray, List.set_cons_zero, List.set_cons_succ]
            refine anyT_done (by kernel_rfl) ?_ _
            go_wp2_with (fail)
            go_roundw
            case rel => exact ⟨j + 1, st9, _, by omega, by go_num, M, HC⟩
            case measure => simp [intOf]; omega
      · obtain rfl : j = n := by omega
        have hjI : ¬ ((j : Int) < (j : Int)) := by omega
        go_wp2_with (first
          | (go_at_call 21; (with_reducible refine (HSP.out _ _ _ _ M.out.m).mono ?_); rintro e w9 ⟨vs, rfl, hm, hb, hk⟩; replace M := Lib.hid (M.out.sign hm hb hk); clear hm hb hk)
          | (go_at_call 11; (with_reducible refine (HNU.out _ M.out.m.env.err).mono ?_); rintro e w10 ⟨rfl, hb⟩; replace M := Lib.hid (M.out.call hb); clear hb)
          | (go_at_call 16; (with_reducible refine (ksure_any _ (M.out.m.env.up M.out.m.fs.le)).mono ?_); rintro e w11 ⟨rfl, hb⟩; replace M := Lib.hid (M.out.call hb); clear hb))
        go_ret
        exact ⟨rfl, HB0.out.trans (M.out.below.mono HB0.out.size)⟩
end Go.Proofs.YtilpohdidekenaaGreatDoor

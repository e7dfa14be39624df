/- Part 16 of the proof. -/
import Derived.Test.YtejglhlodfhgkaaGreatDoorBn1
import Derived.Test.YtejglhlodfhgkaaGreatDoorBn14
import Derived.Test.YtejglhlodfhgkaaGreatDoorBn15
namespace Go.Proofs.YtejglhlodfhgkaaGreatDoor
set_option linter.unusedVariables false
set_option linter.unusedSimpArgs false
open Go.RowKit
set_option maxRecDepth 100000
set_option linter.unusedSimpArgs false
set_option linter.unusedVariables false
def acC (k : Nat → Int) (s : Int) : Array Value := rowOf .u8 32 k ++ #[.int .i64 s]
theorem acC_size (k : Nat → Int) (s : Int) : (acC k s).size = 33 := by simp [acC, rowOf_size]
theorem acC_one (k : Nat → Int) (s : Int) : (acC k s).all (·.oneCell') = true := by
  unfold acC
  rw [Array.all_append, rowOf_one]
  simp [Value.oneCell']
theorem ac_cells {w : World} {g : Nat} {k : Nat → Int} {s : Int} {T : TypeId} (h : w.heap[g]? = some (.cells (acC k s) T (0, 0))) : w.rangeAt g 0 (rowOf .u8 32 k).toList ∧ w.cell? ⟨g, 32, none⟩ = some (.int .i64 s) := by
  have hs : (rowOf .u8 32 k).size = 32 := rowOf_size _ _ _
  refine ⟨fun j u hu => ?_, ?_⟩
  · have hj : j < 32 := by have := (List.getElem?_eq_some_iff.1 hu).1; simpa [hs] using this
    rw [Nat.zero_add, cell_of_row w g j _ _ _ h]; unfold acC
    rw [Array.getElem?_append_left (by rw [hs]; exact hj)]
    simpa using hu
  · rw [cell_of_row w g 32 _ _ _ h]; unfold acC
    rw [Array.getElem?_append_right (by rw [hs]; exact Nat.le_refl _)]; simp [hs]
theorem ac_set {w : World} {g : Nat} {k : Nat → Int} {s s' : Int} {T : TypeId} (h : w.heap[g]? = some (.cells (acC k s) T (0, 0))) : (w.setCell ⟨g, 32, none⟩ (.int .i64 s')).heap[g]? = some (.cells (acC k s') T (0, 0)) := by
  rw [heap_setCell_same w g 32 _ _ _ h]
  have hs : (rowOf .u8 32 k).size = 32 := rowOf_size _ _ _
  congr 2
theorem ac_blank : Tryz.prog.built 78 [] = some (acC (fun _ => 0) 0) := by kernel_rfl
theorem ac_built (K : Nat → Int) (s : Int) : Tryz.prog.built 78 [(0, .agg (rowOf .u8 32 K)), (1, .int .i64 s)] = some (acC K s) := by kernel_rfl
theorem ac_built1 (K : Nat → Int) : Tryz.prog.built 78 [(0, .agg (rowOf .u8 32 K))] = some (acC K 0) := by kernel_rfl
structure AcR where
  k : Nat → Int
  s : Int
  e : Option Nat
def zAc (e : Nat) : AcR := ⟨fun _ => 0, 0, some e⟩
def accM (E : Option Nat) (k : Nat → Int) (s : Int) : AcR := match E with
  | none => ⟨k, s, none⟩
  | some _ => zAc 42
def accD (s : ByteArray) : AcR := accM (doneE (intS (hashS (numsOf s, none)).2).2) (hashS (numsOf s, none)).1 (intS (hashS (numsOf s, none)).2).1
def findR (t : Option AvT) (n : ByteArray) : AcR := match ckN [n] with
  | none => accD (strO (getO t (accK n)))
  | some e => zAc e
set_option maxHeartbeats 8000000 in
theorem bkfind_any (va : Value) (t : Option AvT) (n : ByteArray) (w : World) (ht : TreeO w va t) (hs : (strO (getO t (accK n))).size ≤ 140737488351232) (hn : n.size ≤ 140737488351232) :
    Calls Tryz.prog 34 #[va, .string n] w fun e w' => e = .returned (.tuple #[.agg (acC (findR t n).k (findR t n).s), errV (findR t n).e]) ∧ Below w.heap.size w w' := by
  have z1 : ¬ 9223372036854775807 < 4 + n.size := by omega
  have z1' : ¬ 9223372036854775807 < ({ data := #[97, 99, 99, 47] } : ByteArray).size + n.size := z1
  have HTO := Lib.hid ht
  have HCK := Lib.hid (fun (W : World) (v : Value) (h : NmIn W v [n]) => bkcn_any [n] v W h (by intro s hs; simp only [List.mem_cons, List.not_mem_nil, or_false] at hs; subst hs; omega))
  have HG := Lib.hid (fun (W : World) (h : TreeO W va t) => show Calls Tryz.prog 91 #[va, .string ({ data := #[97, 99, 99, 47] } ++ n)] W fun e w' => e = .returned (.tuple #[.string (strO (getO t (accK n))), .bool (getO t (accK n)).isSome]) ∧ W = w' from get_any va (accK n) t W h)
  obtain ⟨CZ, hCZ⟩ : ∃ z, z = acC (fun _ => 0) 0 := ⟨_, rfl⟩
  have HCZ := Lib.hid hCZ
  have HBZ := Lib.hid (show Tryz.prog.built 78 [] = some CZ from by rw [hCZ]; exact ac_blank)
  have HZS := Lib.hid (show CZ.size = 33 from by rw [hCZ]; exact acC_size _ _)
  have HZO := Lib.hid (show CZ.all (·.oneCell') = true from by rw [hCZ]; exact acC_one _ _)
  have HFD := Lib.hid (show findR t n = (match ckN [n] with
    | none => accD (strO (getO t (accK n)))
    | some e => zAc e) from rfl)
  obtain ⟨C, hC⟩ : ∃ c, c = ckN [n] := ⟨_, rfl⟩
  obtain ⟨F, hF⟩ : ∃ f, f = findR t n := ⟨_, rfl⟩
  obtain ⟨V, hV⟩ : ∃ v, v = strO (getO t (accK n)) := ⟨_, rfl⟩
  obtain ⟨B, hB⟩ : ∃ v, v = (getO t (accK n)).isSome := ⟨_, rfl⟩
  rw [← hC, ← hF, ← hV] at HFD
  rw [← hC] at HCK
  rw [← hV, ← hB] at HG
  rw [← hV] at hs
  rw [← hF]
  clear hC hF hB hCZ ht hV
  cases C with
  | some e =>
    have HF := Lib.hid (show F = zAc e from HFD.out)
    rw [HF.out]
    show Calls Tryz.prog 34 #[va, .string n] w fun e' w' => e' = .returned (.tuple #[.agg (acC (fun _ => 0) 0), errV (some e)]) ∧ Below w.heap.size w w'
    rw [← HCZ.out]
    simp only [errV] at HCK ⊢
    clear HFD HF HG
    go_enter Tryz.func34, Tryz.ntmps34
    go_upto_region 1 with (fail)
    generalize hA : World.alloc w _ = w1
    obtain ⟨cz, hcz, hq⟩ : ∃ cz : Array Value, cz.size = 33 ∧ w1.heap[w.heap.size]? = some (.cells cz 78 (0, 0)) := ⟨_, by kernel_rfl, by rw [← hA]; exact heap_alloc_new _ _⟩
    have HCS := Lib.hid hcz
    have HQ := Lib.hid hq
    have HB1 := Lib.hid (show Below w.heap.size w w1 from by rw [← hA]; exact below_alloc _ _)
    clear hA hcz hq
    obtain ⟨q, hqe⟩ : ∃ q, q = w.heap.size := ⟨_, rfl⟩
    have HQE := Lib.hid hqe
    rw [← hqe] at HQ ⊢
    clear hqe
    go_wp2_with (first
      | (refine wpList_nm1 rfl _ rfl n rfl ?_; have HNI := Lib.hid (nm1_in w1 n); have hb := below_alloc w1 (.cells #[.string n] 9); replace HQ := Lib.hid ((hb.block q (bkT_lt HQ.out)).trans HQ.out); replace HB1 := Lib.hid (HB1.out.trans (hb.mono HB1.out.size)); clear hb)
      | (go_at_call 90; (with_reducible refine (HCK.out _ _ HNI.out).mono ?_); rintro e' w2 ⟨rfl, hb⟩; replace HQ := Lib.hid ((hb.block q (bkT_lt HQ.out)).trans HQ.out); replace HB1 := Lib.hid (HB1.out.trans (hb.mono HB1.out.size)); clear hb)
      | (refine wpList_buildTo rfl 78 #[] rfl (some 16) rfl CZ (by refine Eq.trans (congrArg (Tryz.prog.built 78) ?_) HBZ.out; kernel_rfl) ?_)
      | (refine wpList_store_row rfl 78 (.tmp 4) (.tmp 16) rfl q CZ rfl rfl 78 _ HQ.out (by rw [HZS.out]; kernel_rfl) (by rw [HZS.out, HCS.out]) HZO.out ?_))
    refine bodyPost_ret (results_cell_tmp_row rfl _ _ q 78 CZ (0, 0) _ rfl (setRow_heap _ _ _ _ _ _ HQ.out) Tryz.underlying78 rfl (by rw [HZS.out]; kernel_rfl)) rfl ?_
    exact ⟨rfl, below_setRow HB1.out (by rw [HQE.out]; exact Nat.le_refl _) _⟩
  | none =>
    have HF := Lib.hid (show F = accD V from HFD.out)
    simp only [errV] at HCK
    clear HFD
    have HBV := Lib.hid (fun w => bytesW_below w V)
    have HY := Lib.hid (fun w => bytesW_in w V (by unfold maxLen; omega))
    have hcv : ∀ w : World, (convert 9 25 (.string V)).run Tryz.prog w = .ok (.slice (some ⟨w.heap.size, 0, none⟩) V.size (grownCap w V.size 0 5)) (bytesW w V) :=
      fun w => run_bytes_of_string w 9 25 5 V Tryz.underlying9 Tryz.underlying25 Tryz.underlying5
    have HOK := Lib.hid (numsOf_ok V)
    have HL := Lib.hid (show (numsOf V).length ≤ 140737488355328 from by rw [numsOf_length]; omega)
    obtain ⟨K, s1, h1⟩ : ∃ K s1, hashS (numsOf V, none) = (K, s1) := ⟨_, _, rfl⟩
    obtain ⟨I, s2, h2⟩ : ∃ n s, intS s1 = (n, s) := ⟨_, _, rfl⟩
    have HHA := Lib.hid (show ∀ w p, RS w p (numsOf V, none) → Calls Tryz.prog 92 #[.pointer (some ⟨p, 0, none⟩)] w fun r w' => r = .returned (.agg (rowOf .u8 32 K)) ∧ RS w' p s1 ∧ Only p w w' from fun w p h => by
      have := rhash_any p (numsOf V, none) w h; rw [h1] at this; exact this)
    have HIN := Lib.hid (show ∀ w p, RS w p s1 → Calls Tryz.prog 93 #[.pointer (some ⟨p, 0, none⟩)] w fun r w' => r = .returned (.int .i64 I) ∧ RS w' p s2 ∧ Only p w w' from fun w p h => by
      have := int_any p s1 w h; rw [h2] at this; exact this)
    obtain ⟨E, hE⟩ : ∃ E, E = doneE s2 := ⟨_, rfl⟩
    have HD := Lib.hid (show ∀ w p, RS w p s2 → Calls Tryz.prog 68 #[.pointer (some ⟨p, 0, none⟩)] w fun r w' => r = .returned (errV E) ∧ w' = w from fun w p h => by
      have := rdone_any p s2 w h; rw [← hE] at this; exact this)
    have HFE := Lib.hid (show F = accM E K I from by rw [HF.out]; unfold accD; rw [h1]; simp only; rw [h2]; simp only; rw [hE])
    obtain ⟨CV, hCV⟩ : ∃ z, z = acC K I := ⟨_, rfl⟩
    have HCV := Lib.hid hCV
    have HBU := Lib.hid (show Tryz.prog.built 78 [(0, .agg (rowOf .u8 32 K)), (1, .int .i64 I)] = some CV from by rw [hCV]; exact ac_built K I)
    have HVS := Lib.hid (show CV.size = 33 from by rw [hCV]; exact acC_size _ _)
    have HVO := Lib.hid (show CV.all (·.oneCell') = true from by rw [hCV]; exact acC_one _ _)
    clear h1 h2 hE hCV hs hn HF
    go_enter Tryz.func34, Tryz.ntmps34
    go_upto_region 1 with (fail)
    generalize hA : World.alloc w _ = w1
    obtain ⟨cz, hcz, hq⟩ : ∃ cz : Array Value, cz.size = 33 ∧ w1.heap[w.heap.size]? = some (.cells cz 78 (0, 0)) := ⟨_, by kernel_rfl, by rw [← hA]; exact heap_alloc_new _ _⟩
    have HCS := Lib.hid hcz
    have HQ := Lib.hid hq
    have HB1 := Lib.hid (show Below w.heap.size w w1 from by rw [← hA]; exact below_alloc _ _)
    clear hA hcz hq
    obtain ⟨q, hqe⟩ : ∃ q, q = w.heap.size := ⟨_, rfl⟩
    have HQE := Lib.hid hqe
    rw [← hqe] at HQ ⊢
    clear hqe
    go_upto_region 6 with (first
      | (refine wpList_nm1 rfl _ rfl n rfl ?_; have HNI := Lib.hid (nm1_in w1 n); have hb := below_alloc w1 (.cells #[.string n] 9); replace HQ := Lib.hid ((hb.block q (bkT_lt HQ.out)).trans HQ.out); replace HB1 := Lib.hid (HB1.out.trans (hb.mono HB1.out.size)); clear hb)
      | (go_at_call 90; (with_reducible refine (HCK.out _ _ HNI.out).mono ?_); rintro e' w2 ⟨rfl, hb⟩; replace HQ := Lib.hid ((hb.block q (bkT_lt HQ.out)).trans HQ.out); replace HB1 := Lib.hid (HB1.out.trans (hb.mono HB1.out.size)); clear hb HNI)
      | (go_at_call 91; (with_reducible refine (HG.out w2 (HTO.out.below HB1.out)).mono ?_); rintro e' w3 ⟨rfl, rfl⟩; have hbv := HBV.out w2; replace HY := Lib.hid (HY.out w2); replace HQ := Lib.hid ((hbv.block q (bkT_lt HQ.out)).trans HQ.out); replace HB1 := Lib.hid (HB1.out.trans (hbv.mono HB1.out.size)); clear hbv HBV)
      | (go_at_call 66; (with_reducible refine (read_any _ (numsOf V) _ HY.out HOK.out HL.out).mono ?_); rintro e' w4 ⟨p, y, rfl, hp, hr, hb2⟩; have HP := Lib.hid (Nat.lt_of_lt_of_le (bkT_lt HQ.out) hp); have HPW := Lib.hid (Nat.le_trans HB1.out.size hp); have RS0 := Lib.hid (show RS w4 p (numsOf V, none) from ⟨y, hr⟩); replace HQ := Lib.hid ((hb2.block q (bkT_lt HQ.out)).trans HQ.out); replace HB1 := Lib.hid (HB1.out.trans (hb2.mono HB1.out.size)); clear hp hr hb2))
    clear hcv HY
    go_upto_region 7 with (first
      | (go_at_call 92; (with_reducible refine (HHA.out w4 p RS0.out).mono ?_); rintro e' w5 ⟨rfl, hrs, ho⟩; replace RS0 := Lib.hid hrs; replace HQ := Lib.hid ((ho.block q (bkT_lt HQ.out) (by have := HP.out; omega)).trans HQ.out); replace HB1 := Lib.hid (HB1.out.trans (ho.below HPW.out HB1.out.size)); clear hrs ho)
      | (go_at_call 93; (with_reducible refine (HIN.out w5 p RS0.out).mono ?_); rintro e' w6 ⟨rfl, hrs, ho⟩; replace RS0 := Lib.hid hrs; replace HQ := Lib.hid ((ho.block q (bkT_lt HQ.out) (by have := HP.out; omega)).trans HQ.out); replace HB1 := Lib.hid (HB1.out.trans (ho.below HPW.out HB1.out.size)); clear hrs ho)
      | (refine wpList_buildTo rfl 78 #[(0, .tmp 29), (1, .tmp 31)] rfl (some 32) rfl CV (by refine Eq.trans (congrArg (Tryz.prog.built 78) ?_) HBU.out; kernel_rfl) ?_)
      | (refine wpList_store_row rfl 78 (.tmp 10) (.tmp 32) rfl w6.heap.size CV rfl rfl 78 _ (heap_alloc_new _ _) (by rw [HVS.out]; kernel_rfl) (by rw [HVS.out]; rfl) HVO.out ?_; rw [World.setRow_alloc_new]))
    have hba := below_alloc w6 (.cells CV 78)
    have HQ5 := Lib.hid (heap_alloc_new w6 (.cells CV 78))
    replace HQ := Lib.hid ((hba.block q (bkT_lt HQ.out)).trans HQ.out)
    replace HB1 := Lib.hid (HB1.out.trans (hba.mono HB1.out.size))
    replace RS0 := Lib.hid (show RS (w6.alloc (.cells CV 78)) p s2 from by obtain ⟨y, hy⟩ := RS0.out; exact ⟨y, hy.below hba⟩)
    clear hba
    obtain ⟨g5, hg5⟩ : ∃ z, z = w6.heap.size := ⟨_, rfl⟩
    rw [← hg5] at HQ5 ⊢
    clear hg5
    generalize w6.alloc (.cells CV 78) = w7 at *
    cases E with
    | some e1 =>
      have HFF := Lib.hid (show F = zAc 42 from HFE.out)
      simp only [errV] at HD
      go_wp2_with (first
        | (go_at_call 68; (with_reducible refine (HD.out w7 p RS0.out).mono ?_); rintro e' w8 ⟨rfl, rfl⟩)
        | (refine wpList_buildTo rfl 78 #[] rfl (some 36) rfl CZ (by refine Eq.trans (congrArg (Tryz.prog.built 78) ?_) HBZ.out; kernel_rfl) ?_)
        | (refine wpList_store_row rfl 78 (.tmp 4) (.tmp 36) rfl q CZ rfl rfl 78 _ HQ.out (by rw [HZS.out]; kernel_rfl) (by rw [HZS.out, HCS.out]) HZO.out ?_))
      refine bodyPost_ret (results_cell_tmp_row rfl _ _ q 78 CZ (0, 0) _ rfl (setRow_heap _ _ _ _ _ _ HQ.out) Tryz.underlying78 rfl (by rw [HZS.out]; kernel_rfl)) rfl ?_
      exact ⟨by rw [HFF.out, HCZ.out]; rfl, below_setRow HB1.out (by rw [HQE.out]; exact Nat.le_refl _) _⟩
    | none =>
      have HFF := Lib.hid (show F = ⟨K, I, none⟩ from HFE.out)
      simp only [errV] at HD
      go_wp2_with (first
        | (go_at_call 68; (with_reducible refine (HD.out w7 p RS0.out).mono ?_); rintro e' w8 ⟨rfl, rfl⟩)
        | (refine wpList_load_rowT (by rfl) 78 (.tmp 10) rfl g5 0 rfl CV _ (rowT_range HQ5.out) Tryz.underlying78 rfl (by rw [HVS.out]; kernel_rfl) ?_)
        | (refine wpList_store_row rfl 78 (.tmp 4) (.tmp 38) rfl q CV rfl rfl 78 _ HQ.out (by rw [HVS.out]; kernel_rfl) (by rw [HVS.out, HCS.out]) HVO.out ?_))
      refine bodyPost_ret (results_cell_tmp_row rfl _ _ q 78 CV (0, 0) _ rfl (setRow_heap _ _ _ _ _ _ HQ.out) Tryz.underlying78 rfl (by rw [HVS.out]; kernel_rfl)) rfl ?_
      exact ⟨by rw [HFF.out, HCV.out]; rfl, below_setRow HB1.out (by rw [HQE.out]; exact Nat.le_refl _) _⟩
def encA (k : Nat → Int) (s : Int) : ByteArray := strOfNums (rowL 32 k ++ varint (zig s))
theorem encA_size {k : Nat → Int} {s : Int} (h : -9223372036854775808 ≤ s ∧ s ≤ 9223372036854775807) : (encA k s).size ≤ 42 := by unfold encA; rw [strOfNums_size, List.length_append, rowL32]; have := vlen _ (zig_lt h.1 h.2); omega
/-- the account's block -/
structure AcM (w : World) (q : Nat) (CV : Array Value) (va : Value) (t : Option AvT) (wr : World) : Prop where
  b : Below w.heap.size w wr
  r : wr.heap[q]? = some (.cells CV 78 (0, 0))
  t : TreeO wr va t
  e : Env wr
theorem AcM.call {w : World} {q : Nat} {CV : Array Value} {va : Value} {t : Option AvT} {wr w' : World} (m : AcM w q CV va t wr) (h : Below wr.heap.size wr w') : AcM w q CV va t w' := ⟨m.b.trans (h.mono m.b.size), (h.block q (bkT_lt m.r)).trans m.r, m.t.below h, m.e.below h m.e.lt⟩

set_option maxHeartbeats 8000000 in
theorem bkwith_any (va : Value) (t : Option AvT) (n : ByteArray) (k : Nat → Int) (s : Int) (w : World) (he : Env w) (ht : TreeO w va t) (hs : -9223372036854775808 ≤ s ∧ s ≤ 9223372036854775807) (hn : n.size ≤ 140737488351000) (hm : manyO t + 1 ≤ 4611686018427387904) :
    Calls Tryz.prog 115 #[va, .string n, .agg (acC k s)] w (NewT (setO t (accK n) (encA k s)) w) := by
  have z1 : ¬ 9223372036854775807 < 4 + n.size := by omega
  have z1' : ¬ 9223372036854775807 < ({ data := #[97, 99, 99, 47] } : ByteArray).size + n.size := z1
  obtain ⟨CV, hCV⟩ : ∃ z, z = acC k s := ⟨_, rfl⟩
  have HCE := Lib.hid (fun (W : World) {g : Nat} (h : W.heap[g]? = some (.cells CV 78 (0, 0))) => ac_cells (show W.heap[g]? = some (.cells (acC k s) 78 (0, 0)) from by rw [← hCV]; exact h))
  have HVS := Lib.hid (show CV.size = 33 from by rw [hCV]; exact acC_size _ _)
  rw [← hCV]
  have hba := below_alloc w (.cells CV 78)
  have M := Lib.hid (show AcM w w.heap.size CV va t (w.alloc (.cells CV 78)) from ⟨hba, heap_alloc_new _ _, ht.below hba, he.below hba he.lt⟩)
  have HZL := Lib.hid (show (varint (zig s)).length ≤ 10 from vlen _ (zig_lt hs.1 hs.2))
  have HES := Lib.hid (encA_size (k := k) hs)
  have HEN := Lib.hid (show encA k s = strOfNums (rowL 32 k ++ varint (zig s)) from rfl)
  obtain ⟨XS, hXS⟩ : ∃ X, X = rowL 32 k ++ varint (zig s) := ⟨_, rfl⟩
  obtain ⟨V, hV⟩ : ∃ X, X = encA k s := ⟨_, rfl⟩
  have HXL := Lib.hid (show XS.length ≤ 42 from by rw [hXS, List.length_append, rowL32]; have := HZL.out; omega)
  have HSS := Lib.hid hs
  have HWI := Lib.hid (show ∀ p B w0 w v, WAt w p v (rowL 32 k) → Below B w0 w → B ≤ p → Calls Tryz.prog 116 #[.pointer (some ⟨p, 0, none⟩), .int .i64 s] w fun e w' => e = .returned (.pointer (some ⟨p, 0, none⟩)) ∧ ∃ v', WAt w' p v' XS ∧ Below B w0 w' from fun p B w0 w v hw hb hB => by
    have h := (wint_any p v s (rowL 32 k) w hw HSS.out.1 HSS.out.2 (by rw [rowL32]; omega)).mono fun _ _ h => wpost_on h hw hb hB
    rw [← hXS] at h; exact h)
  have HST := Lib.hid (fun (W : World) (h1 : Env W) (h2 : TreeO W va t) => show Calls Tryz.prog 84 #[va, .string ({ data := #[97, 99, 99, 47] } ++ n), .string V] W (NewT (setO t (accK n) V) W) from set_any va t (accK n) V W h1 h2 (by rw [accK_size, hV]; have := HES.out; omega) hm)
  rw [← hXS, ← hV] at HEN
  rw [← hV]
  obtain ⟨T, hT⟩ : ∃ T, T = setO t (accK n) V := ⟨_, rfl⟩
  rw [← hT] at HST ⊢
  clear hCV hba he ht hs hn hm hXS hV hT HZL
  unfold NewT at HST ⊢
  go_enter Tryz.func115, Tryz.ntmps115
  go_upto_region 1 with (fail)
  obtain ⟨q, hq⟩ : ∃ q, q = w.heap.size := ⟨_, rfl⟩
  rw [← hq] at M ⊢
  clear hq
  generalize w.alloc (.cells CV 78) = w1 at *
  refine wp_region_T (fun W => AcM w q CV va t W) [0, 1, 2, 3, 4, 5, 6, 7, 8] (by kernel_rfl) ?_
  replace M := Lib.hid (M.out.call (Below.refl _ _).drew)
  generalize World.drew _ = d0 at *
  have M0 := M
  refine anyT_take [2, 3, 6, 7, 8] (i := 1) (v := .pointer (some ⟨q, 0, none⟩)) rfl (by kernel_rfl) (by kernel_rfl) (by kernel_rfl) (fun _ _ _ h => h) (by kernel_rfl) (Or.inl ⟨by rfl, fun w' _ => by go_simp⟩) M.out ?_
  try simp only [List.getElem_toArray, List.getElem_cons_succ, List.getElem_cons_zero, Act.put, List.setIfInBounds_toArray, List.set_cons_zero, List.set_cons_succ]
  refine anyT_take [5, 6, 7, 8] (i := 4) (v := .pointer (some ⟨q, 32, none⟩)) rfl (by kernel_rfl) (by kernel_rfl) (by kernel_rfl) (fun _ _ _ h => h) (by kernel_rfl) (Or.inl ⟨by rfl, fun w' _ => by go_simp⟩) M.out ?_
  try simp only [List.getElem_toArray, List.getElem_cons_succ, List.getElem_cons_zero, Act.put, List.setIfInBounds_toArray, List.set_cons_zero, List.set_cons_succ]
  refine anyT_take [3, 6, 7, 8] (i := 2) (v := .agg (rowOf .u8 32 k)) rfl (by kernel_rfl) (by kernel_rfl) (by kernel_rfl) (fun _ _ _ h => h) (by kernel_rfl) (rowT_yields (by rfl) 53 (.tmp 9) rfl q 0 rfl _ _ (fun _ h => (HCE.out _ h.r).1) Tryz.underlying53 rfl (by rw [rowOf_size]; kernel_rfl)) M.out ?_
  try simp only [List.getElem_toArray, List.getElem_cons_succ, List.getElem_cons_zero, Act.put, List.setIfInBounds_toArray, List.set_cons_zero, List.set_cons_succ]
  refine anyT_take [6, 7, 8] (i := 5) (v := .int .i64 s) rfl (by kernel_rfl) (by kernel_rfl) (by kernel_rfl) (fun _ _ _ h => h) (by kernel_rfl) (Or.inl ⟨by rfl, fun w' hS => by have c := (HCE.out w' hS.r).2; go_simp⟩) M.out ?_
  try simp only [List.getElem_toArray, List.getElem_cons_succ, List.getElem_cons_zero, Act.put, List.setIfInBounds_toArray, List.set_cons_zero, List.set_cons_succ]
  refine anyT_one (i := 0) (by kernel_rfl) rfl (fun K hK => ?_)
  rw [if_pos (by rfl)]
  try simp only [List.getElem_toArray, List.getElem_cons_succ, List.getElem_cons_zero]
  (go_simp; (with_reducible refine (new_on d0).mono ?_); rintro e x1 ⟨rfl, hw, hb⟩; have HW := Lib.hid hw; have HB2 := Lib.hid hb; replace M := Lib.hid (M.out.call hb); clear hw hb)
  refine hK _ _ (fun _ => M.out) ?_
  clear hK K
  try simp only [List.getElem_toArray, List.getElem_cons_succ, List.getElem_cons_zero, Act.put, List.setIfInBounds_toArray, List.set_cons_zero, List.set_cons_succ]
  refine anyT_one (i := 3) (by kernel_rfl) rfl (fun K hK => ?_)
  rw [if_pos (by rfl)]
  try simp only [List.getElem_toArray, List.getElem_cons_succ, List.getElem_cons_zero]
  (go_simp; (with_reducible refine (whash_on d0.heap.size d0.heap.size _ _ k _ _ HW.out HB2.out (Nat.le_refl _) (by simp)).mono ?_); rintro e x2 ⟨rfl, v2, hw, hb⟩; replace HW := Lib.hid (show WAt x2 d0.heap.size v2 (rowL 32 k) from hw); replace HB2 := Lib.hid hb; replace M := Lib.hid (M0.out.call hb); clear hw hb)
  refine hK _ _ (fun _ => M.out) ?_
  clear hK K
  try simp only [List.getElem_toArray, List.getElem_cons_succ, List.getElem_cons_zero, Act.put, List.setIfInBounds_toArray, List.set_cons_zero, List.set_cons_succ]
  refine anyT_one (i := 6) (by kernel_rfl) rfl (fun K hK => ?_)
  rw [if_pos (by rfl)]
  try simp only [List.getElem_toArray, List.getElem_cons_succ, List.getElem_cons_zero]
  (go_simp; (with_reducible refine (HWI.out d0.heap.size d0.heap.size d0 _ v2 HW.out HB2.out (Nat.le_refl _)).mono ?_); rintro e x3 ⟨rfl, v3, hw, hb⟩; replace HW := Lib.hid hw; replace HB2 := Lib.hid hb; replace M := Lib.hid (M0.out.call hb); clear hw hb)
  refine hK _ _ (fun _ => M.out) ?_
  clear hK K
  try simp only [List.getElem_toArray, List.getElem_cons_succ, List.getElem_cons_zero, Act.put, List.setIfInBounds_toArray, List.set_cons_zero, List.set_cons_succ]
  refine anyT_one (i := 7) (by kernel_rfl) rfl (fun K hK => ?_)
  rw [if_pos (by rfl)]
  try simp only [List.getElem_toArray, List.getElem_cons_succ, List.getElem_cons_zero]
  (go_simp; (with_reducible refine (wdone_on d0.heap.size d0.heap.size _ _ _ _ HW.out HB2.out (Nat.le_refl _) (by have := HXL.out; omega)).mono ?_); rintro e x4 ⟨v4, rfl, hw, hb⟩; have HX := Lib.hid hw; replace HB2 := Lib.hid hb; replace M := Lib.hid (M0.out.call hb); clear hw hb)
  refine hK _ _ (fun _ => M.out) ?_
  clear hK K
  try simp only [List.getElem_toArray, List.getElem_cons_succ, List.getElem_cons_zero, Act.put, List.setIfInBounds_toArray, List.set_cons_zero, List.set_cons_succ]
  refine anyT_take [] (i := 8) (v := v4) rfl (by kernel_rfl) (by kernel_rfl) (by kernel_rfl) (fun _ _ _ h => h) (by kernel_rfl) (Or.inl ⟨by rfl, fun w' _ => by go_simp⟩) M.out ?_
  try simp only [List.getElem_toArray, List.getElem_cons_succ, List.getElem_cons_zero, Act.put, List.setIfInBounds_toArray, List.set_cons_zero, List.set_cons_succ]
  refine anyT_done (by kernel_rfl) ?_ _
  have hcv : (convert 25 9 v4).run Tryz.prog x4 = .ok (.string V) x4 := (conv_bytes x4 v4 _ HX.out).trans (by rw [HEN.out])
  go_wp2_with (go_at_call 84; (with_reducible refine (HST.out _ M.out.e M.out.t).mono ?_); rintro e w6 ⟨g6, rfl, ht6, hb6⟩; have HT6 := Lib.hid ht6; replace M := Lib.hid (M.out.call hb6); clear ht6 hb6)
  go_ret
  exact ⟨_, rfl, HT6.out, M.out.b⟩
end Go.Proofs.YtejglhlodfhgkaaGreatDoor
namespace Go.Proofs.YtejglhlodfhgkaaGreatDoor
set_option linter.unusedVariables false
set_option linter.unusedSimpArgs false
open Go.RowKit
set_option maxRecDepth 100000
set_option linter.unusedSimpArgs false
set_option linter.unusedVariables false
theorem unzig_i64 {n : Nat} (h : n < 18446744073709551616) : -9223372036854775808 ≤ unzig n ∧ unzig n ≤ 9223372036854775807 := by
  unfold unzig
  split <;> omega
theorem intS_i64 (s : RSt) : -9223372036854775808 ≤ (intS s).1 ∧ (intS s).1 ≤ 9223372036854775807 := unzig_i64 (uintS_lt s _)
theorem findR_i64 (t : Option AvT) (n : ByteArray) : -9223372036854775808 ≤ (findR t n).s ∧ (findR t n).s ≤ 9223372036854775807 := by
  unfold findR
  cases ckN [n] with
  | some e => show -9223372036854775808 ≤ (0 : Int) ∧ (0 : Int) ≤ 9223372036854775807; decide
  | none =>
    unfold accD
    cases doneE (intS (hashS (numsOf (strO (getO t (accK n))), none)).2).2 with
    | some e => show -9223372036854775808 ≤ (0 : Int) ∧ (0 : Int) ≤ 9223372036854775807; decide
    | none => exact intS_i64 _
theorem findR_nm {t : Option AvT} {n : ByteArray} (h : (findR t n).e = none) : ckN [n] = none := by
  unfold findR at h
  cases hc : ckN [n] with
  | none => rfl
  | some e => rw [hc] at h; cases h
def opE (C F : Option Nat) : Option Nat := match C with
  | some e => some e
  | none => match F with
    | none => some 9
    | some _ => none
def opT (C F : Option Nat) (T : AvT) : Option AvT := match C with
  | some _ => none
  | none => match F with
    | none => none
    | some _ => some T
def openR (t : Option AvT) (n : ByteArray) (k : Nat → Int) : StpR := ⟨opE (ckN [n]) (findR t n).e, opT (ckN [n]) (findR t n).e (setO t (accK n) (encA k 0))⟩
set_option maxHeartbeats 8000000 in
theorem bkopen_any (va : Value) (t : Option AvT) (n : ByteArray) (k : Nat → Int) (w : World) (g : Nat) (he : Env w) (ht : TreeO w va t) (hg : GT 140737488351232 g t) (hgn : g + 1 ≤ 4611686018427387904) (hn : n.size ≤ 140737488351232) :
    Calls Tryz.prog 49 #[va, .string n, .agg (rowOf .u8 32 k)] w (ChgPost (openR t n k).e (openR t n k).t w) := by
  have HB := Lib.hid (below_alloc w (.cells (rowOf .u8 32 k) 53))
  have HQ := Lib.hid (heap_alloc_new w (.cells (rowOf .u8 32 k) 53))
  have HT := Lib.hid ht
  have HE := Lib.hid he
  have HEL := Lib.hid he.lt
  have HCK := Lib.hid (fun (W : World) (v : Value) (h : NmIn W v [n]) => bkcn_any [n] v W h (by intro s hs; simp only [List.mem_cons, List.not_mem_nil, or_false] at hs; subst hs; omega))
  have HFN := Lib.hid (fun (W : World) (h : TreeO W va t) => bkfind_any va t n W h (hg.val _) hn)
  have HWI := Lib.hid (fun (hc : ckN [n] = none) (W : World) (h1 : Env W) (h2 : TreeO W va t) => bkwith_any va t n k 0 W h1 h2 (by omega) (by have := ckN_one hc; omega) (by have := hg.many; omega))
  have HRS := Lib.hid (show (openR t n k).e = opE (ckN [n]) (findR t n).e ∧ (openR t n k).t = opT (ckN [n]) (findR t n).e (setO t (accK n) (encA k 0)) from ⟨rfl, rfl⟩)
  obtain ⟨C, hC⟩ : ∃ c, c = ckN [n] := ⟨_, rfl⟩
  obtain ⟨FE, hFE⟩ : ∃ c, c = (findR t n).e := ⟨_, rfl⟩
  obtain ⟨FC, hFC⟩ : ∃ c, c = acC (findR t n).k (findR t n).s := ⟨_, rfl⟩
  have HFS := Lib.hid (show FC.size = 33 from by rw [hFC]; exact acC_size _ _)
  have HFO := Lib.hid (show FC.all (·.oneCell') = true from by rw [hFC]; exact acC_one _ _)
  obtain ⟨T, hT⟩ : ∃ c, c = setO t (accK n) (encA k 0) := ⟨_, rfl⟩
  obtain ⟨RE, hRE⟩ : ∃ c, c = (openR t n k).e := ⟨_, rfl⟩
  obtain ⟨RT, hRT⟩ : ∃ c, c = (openR t n k).t := ⟨_, rfl⟩
  rw [← hC, ← hFE, ← hT, ← hRE, ← hRT] at HRS
  rw [← hC] at HCK HWI
  rw [← hFC, ← hFE] at HFN
  rw [← hT] at HWI
  rw [← hRE, ← hRT]
  obtain ⟨AV, hAV⟩ : ∃ c, c = acC k 0 := ⟨_, rfl⟩
  have HBU := Lib.hid (show Tryz.prog.built 78 [(0, .agg (rowOf .u8 32 k))] = some AV from by rw [hAV]; exact ac_built1 k)
  rw [← hAV] at HWI
  unfold ChgPost
  unfold NewT at HWI
  clear hC hFE hFC hT hRE hRT hAV ht he hg hgn hn
  have HSZ := Lib.hid (show (rowOf .u8 32 k).size = 32 from rowOf_size _ _ _)
  cases C with
  | some c =>
    have HF := Lib.hid (show RE = some c ∧ RT = none from HRS.out)
    simp only [errV] at HCK
    rw [HF.out.1, HF.out.2]
    go_enter Tryz.func49, Tryz.ntmps49
    go_upto_region 1 with (fail)
    generalize w.alloc (.cells (rowOf .u8 32 k) 53) = w1 at *
    go_wp2_with (first
      | (refine wpList_nm1 rfl _ rfl n rfl ?_; have HNI := Lib.hid (nm1_in w1 n); have hb := below_alloc w1 (.cells #[.string n] 9); replace HB := Lib.hid (HB.out.trans (hb.mono HB.out.size)); clear hb)
      | (go_at_call 90; (with_reducible refine (HCK.out _ _ HNI.out).mono ?_); rintro e w2 ⟨rfl, hb⟩; replace HB := Lib.hid (HB.out.trans (hb.mono HB.out.size)); clear hb))
    go_ret2
    exact ⟨_, rfl, rfl, HB.out⟩
  | none =>
  simp only [errV] at HCK
  go_enter Tryz.func49, Tryz.ntmps49
  go_upto_region 1 with (fail)
  obtain ⟨q, hq⟩ : ∃ q, q = w.heap.size := ⟨_, rfl⟩
  rw [← hq] at HQ ⊢
  clear hq
  generalize w.alloc (.cells (rowOf .u8 32 k) 53) = w1 at *
  cases FE with
  | none =>
    have HF := Lib.hid (show RE = some 9 ∧ RT = none from HRS.out)
    simp only [errV] at HFN
    go_wp2_with (first
      | (refine wpList_nm1 rfl _ rfl n rfl ?_; have HNI := Lib.hid (nm1_in w1 n); have hb := below_alloc w1 (.cells #[.string n] 9); replace HB := Lib.hid (HB.out.trans (hb.mono HB.out.size)); clear hb)
      | (go_at_call 90; (with_reducible refine (HCK.out _ _ HNI.out).mono ?_); rintro e w2 ⟨rfl, hb⟩; replace HB := Lib.hid (HB.out.trans (hb.mono HB.out.size)); clear hb)
      | (go_at_call 34; (with_reducible refine (HFN.out w2 (HT.out.below HB.out)).mono ?_); rintro e w3 ⟨rfl, hb⟩; replace HB := Lib.hid (HB.out.trans (hb.mono HB.out.size)); clear hb)
      | (refine wpList_store_row rfl 78 (.tmp 9) (.tmp 21) rfl w3.heap.size FC rfl rfl 78 _ (heap_alloc_new _ _) (by rw [HFS.out]; kernel_rfl) (by rw [HFS.out]; rfl) HFO.out ?_; rw [World.setRow_alloc_new]; have hb := below_alloc w3 (.cells FC 78); replace HB := Lib.hid (HB.out.trans (hb.mono HB.out.size)); clear hb))
    go_ret2
    rw [HF.out.1, HF.out.2]
    exact ⟨_, rfl, rfl, HB.out⟩
  | some fe =>
    have HF := Lib.hid (show RE = none ∧ RT = some T from HRS.out)
    simp only [errV] at HFN
    go_wp2_with (first
      | (refine wpList_nm1 rfl _ rfl n rfl ?_; have HNI := Lib.hid (nm1_in w1 n); have hb := below_alloc w1 (.cells #[.string n] 9); replace HQ := Lib.hid ((hb.block q (bkT_lt HQ.out)).trans HQ.out); replace HB := Lib.hid (HB.out.trans (hb.mono HB.out.size)); clear hb)
      | (go_at_call 90; (with_reducible refine (HCK.out _ _ HNI.out).mono ?_); rintro e w2 ⟨rfl, hb⟩; replace HQ := Lib.hid ((hb.block q (bkT_lt HQ.out)).trans HQ.out); replace HB := Lib.hid (HB.out.trans (hb.mono HB.out.size)); clear hb)
      | (go_at_call 34; (with_reducible refine (HFN.out w2 (HT.out.below HB.out)).mono ?_); rintro e w3 ⟨rfl, hb⟩; replace HQ := Lib.hid ((hb.block q (bkT_lt HQ.out)).trans HQ.out); replace HB := Lib.hid (HB.out.trans (hb.mono HB.out.size)); clear hb)
      | (refine wpList_store_row rfl 78 (.tmp 9) (.tmp 21) rfl w3.heap.size FC rfl rfl 78 _ (heap_alloc_new _ _) (by rw [HFS.out]; kernel_rfl) (by rw [HFS.out]; rfl) HFO.out ?_; rw [World.setRow_alloc_new]; have hb := below_alloc w3 (.cells FC 78); replace HQ := Lib.hid ((hb.block q (bkT_lt HQ.out)).trans HQ.out); replace HB := Lib.hid (HB.out.trans (hb.mono HB.out.size)); clear hb; generalize w3.alloc (.cells FC 78) = w4 at *)
      | (refine wpList_load_rowT (by rfl) 53 (.tmp 5) rfl q 0 rfl (rowOf .u8 32 k) _ (rowT_range HQ.out) Tryz.underlying53 rfl (by rw [HSZ.out]; kernel_rfl) ?_)
      | (refine wpList_buildTo rfl 78 #[(0, .tmp 28)] rfl (some 29) rfl AV (by refine Eq.trans (congrArg (Tryz.prog.built 78) ?_) HBU.out; kernel_rfl) ?_)
      | (go_at_call 115; (with_reducible refine (HWI.out (by trivial) w4 (HE.out.below HB.out HEL.out) (HT.out.below HB.out)).mono ?_); rintro e w5 ⟨g5, rfl, ht5, hb⟩; have HT5 := Lib.hid ht5; replace HB := Lib.hid (HB.out.trans (hb.mono HB.out.size)); clear hb ht5))
    go_ret2
    rw [HF.out.1, HF.out.2]
    exact ⟨_, rfl, HT5.out.toO, HB.out⟩
def buE (F : Option Nat) (s : Int) : Option Nat := match F with
  | some e => some e
  | none => if 1099511627776 ≤ s then some 5 else none
def buT (F : Option Nat) (s : Int) (T : AvT) : Option AvT := match F with
  | some _ => none
  | none => if 1099511627776 ≤ s then none else some T
def bumpR (t : Option AvT) (n : ByteArray) : StpR := ⟨buE (findR t n).e (findR t n).s, buT (findR t n).e (findR t n).s (setO t (accK n) (encA (findR t n).k ((findR t n).s + 1)))⟩
set_option maxHeartbeats 8000000 in
theorem bkbump_any (va : Value) (t : Option AvT) (n : ByteArray) (w : World) (g : Nat) (he : Env w) (ht : TreeO w va t) (hg : GT 140737488351232 g t) (hgn : g + 1 ≤ 4611686018427387904) (hn : n.size ≤ 140737488351232) :
    Calls Tryz.prog 50 #[va, .string n] w (ChgPost (bumpR t n).e (bumpR t n).t w) := by
  have HT := Lib.hid ht
  have HE := Lib.hid he
  have HEL := Lib.hid he.lt
  have HFN := Lib.hid (bkfind_any va t n w ht (hg.val _) hn)
  have hfi := findR_i64 t n
  have HRS := Lib.hid (show (bumpR t n).e = buE (findR t n).e (findR t n).s ∧ (bumpR t n).t = buT (findR t n).e (findR t n).s (setO t (accK n) (encA (findR t n).k ((findR t n).s + 1))) from ⟨rfl, rfl⟩)
  obtain ⟨FE, hFE⟩ : ∃ c, c = (findR t n).e := ⟨_, rfl⟩
  obtain ⟨FK, hFK⟩ : ∃ c, c = (findR t n).k := ⟨_, rfl⟩
  obtain ⟨FS, hFS⟩ : ∃ c, c = (findR t n).s := ⟨_, rfl⟩
  rw [← hFE, ← hFK, ← hFS] at HRS
  rw [← hFE, ← hFK, ← hFS] at HFN
  rw [← hFS] at hfi
  have HWI := Lib.hid (fun (hf : FE = none) (hs : FS < 1099511627776) (W : World) (h1 : Env W) (h2 : TreeO W va t) => bkwith_any va t n FK (FS + 1) W h1 h2 (by omega) (by have := ckN_one (findR_nm (hFE.symm.trans hf)); omega) (by have := hg.many; omega))
  obtain ⟨T, hT⟩ : ∃ c, c = setO t (accK n) (encA FK (FS + 1)) := ⟨_, rfl⟩
  obtain ⟨RE, hRE⟩ : ∃ c, c = (bumpR t n).e := ⟨_, rfl⟩
  obtain ⟨RT, hRT⟩ : ∃ c, c = (bumpR t n).t := ⟨_, rfl⟩
  rw [← hT, ← hRE, ← hRT] at HRS
  rw [← hT] at HWI
  rw [← hRE, ← hRT]
  unfold ChgPost
  unfold NewT at HWI
  obtain ⟨FC, hFC⟩ : ∃ c, c = acC FK FS := ⟨_, rfl⟩
  have HFS := Lib.hid (show FC.size = 33 from by rw [hFC]; exact acC_size _ _)
  have HFO := Lib.hid (show FC.all (·.oneCell') = true from by rw [hFC]; exact acC_one _ _)
  have HCE := Lib.hid (fun (W : World) {g : Nat} (h : W.heap[g]? = some (.cells FC 78 (0, 0))) => (ac_cells (show W.heap[g]? = some (.cells (acC FK FS) 78 (0, 0)) from by rw [← hFC]; exact h)).2)
  obtain ⟨FD, hFD⟩ : ∃ c, c = acC FK (FS + 1) := ⟨_, rfl⟩
  have HDS := Lib.hid (show FD.size = 33 from by rw [hFD]; exact acC_size _ _)
  have HST := Lib.hid (fun (W : World) {g : Nat} (h : W.heap[g]? = some (.cells FC 78 (0, 0))) => show (W.setCell ⟨g, 32, none⟩ (.int .i64 (FS + 1))).heap[g]? = some (.cells FD 78 (0, 0)) from by rw [hFD]; rw [hFC] at h; exact ac_set h)
  rw [← hFC] at HFN
  rw [← hFD] at HWI
  obtain ⟨q, hq⟩ : ∃ q, q = w.heap.size := ⟨_, rfl⟩
  have HQE := Lib.hid hq
  have h0 := hfi.1
  have h1 := hfi.2
  clear hFE hFK hFS hT hRE hRT ht he hg hgn hn hFC hFD hfi hq
  go_enter Tryz.func50, Tryz.ntmps50
  cases FE with
  | some e1 =>
    have HF := Lib.hid (show RE = some e1 ∧ RT = none from HRS.out)
    simp only [errV] at HFN
    go_wp2_with (first
      | (go_at_call 34; (with_reducible refine HFN.out.mono ?_); rintro e w3 ⟨rfl, hb⟩; have HB := Lib.hid hb; clear hb)
      | (refine wpList_store_row rfl 78 (.tmp 6) (.tmp 12) rfl w3.heap.size FC rfl rfl 78 _ (heap_alloc_new _ _) (by rw [HFS.out]; kernel_rfl) (by rw [HFS.out]; rfl) HFO.out ?_; rw [World.setRow_alloc_new]; have hb := below_alloc w3 (.cells FC 78); replace HB := Lib.hid (HB.out.trans (hb.mono HB.out.size)); clear hb))
    go_ret2
    rw [HF.out.1, HF.out.2]
    exact ⟨_, rfl, rfl, HB.out⟩
  | none =>
    simp only [errV] at HFN
    go_upto_region 2 with (first
      | (go_at_call 34; (with_reducible refine HFN.out.mono ?_); rintro e w3 ⟨rfl, hb⟩; have HB := Lib.hid hb; clear hb)
      | (refine wpList_store_row rfl 78 (.tmp 6) (.tmp 12) rfl w3.heap.size FC rfl rfl 78 _ (heap_alloc_new _ _) (by rw [HFS.out]; kernel_rfl) (by rw [HFS.out]; rfl) HFO.out ?_; rw [World.setRow_alloc_new]))
    have hba := below_alloc w3 (.cells FC 78)
    have hq3 := heap_alloc_new w3 (.cells FC 78)
    obtain ⟨g3, hg3⟩ : ∃ z, z = w3.heap.size := ⟨_, rfl⟩
    have HG3 := Lib.hid (show w.heap.size ≤ g3 from by rw [hg3]; exact HB.out.size)
    rw [← hg3] at hq3 ⊢
    have HQ3 := Lib.hid hq3
    replace HB := Lib.hid (HB.out.trans (hba.mono HB.out.size))
    clear hba hq3 hg3
    generalize w3.alloc (.cells FC 78) = w4 at *
    have c32 := HCE.out w4 HQ3.out
    by_cases h4 : 1099511627776 ≤ FS
    · have HF := Lib.hid (show RE = some 5 ∧ RT = none from ⟨HRS.out.1.trans (if_pos h4), HRS.out.2.trans (if_pos h4)⟩)
      go_wp2_with (fail)
      go_ret2
      rw [HF.out.1, HF.out.2]
      exact ⟨_, rfl, rfl, HB.out⟩
    · have HF := Lib.hid (show RE = none ∧ RT = some T from ⟨HRS.out.1.trans (if_neg h4), HRS.out.2.trans (if_neg h4)⟩)
      have h5 : FS < 1099511627776 := by omega
      have HW5 := Lib.hid (HWI.out (by trivial) h5)
      have kf := frozen_of_row w4 g3 32 _ _ HQ3.out
      go_upto_region 7 with (fail)
      have HQ4 := Lib.hid (HST.out w4 HQ3.out)
      have hO := Only.setCell w4 ⟨g3, 32, none⟩ (.int .i64 (FS + 1))
      have HB5 := Lib.hid (HB.out.trans (hO.below HG3.out HB.out.size))
      go_wp2_with (first
        | (refine wpList_load_rowT (by rfl) 78 (.tmp 6) rfl g3 0 rfl FD _ (rowT_range HQ4.out) Tryz.underlying78 rfl (by rw [HDS.out]; kernel_rfl) ?_)
        | (go_at_call 115; (with_reducible refine (HW5.out _ (HE.out.below HB5.out HEL.out) (HT.out.below HB5.out)).mono ?_); rintro e w5 ⟨g5, rfl, ht5, hb⟩; have HT5 := Lib.hid ht5; replace HB5 := Lib.hid (HB5.out.trans (hb.mono HB5.out.size)); clear hb ht5))
      go_ret2
      rw [HF.out.1, HF.out.2]
      exact ⟨_, rfl, HT5.out.toO, HB5.out⟩
end Go.Proofs.YtejglhlodfhgkaaGreatDoor

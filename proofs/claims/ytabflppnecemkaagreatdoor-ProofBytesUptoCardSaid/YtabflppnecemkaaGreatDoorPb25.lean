/- Part 25 of the proof. -/
import Derived.Test.YtabflppnecemkaaGreatDoorPb6
import Derived.Test.YtabflppnecemkaaGreatDoorPb7
import Derived.Test.YtabflppnecemkaaGreatDoorPb8
import Derived.Test.YtabflppnecemkaaGreatDoorPb15
import Derived.Test.YtabflppnecemkaaGreatDoorPb18
import Derived.Test.YtabflppnecemkaaGreatDoorPb24
namespace Go.Proofs.YtabflppnecemkaaGreatDoor
set_option linter.unusedVariables false
set_option linter.unusedSimpArgs false
open Go.RowKit
set_option maxRecDepth 100000
set_option linter.unusedSimpArgs false
set_option linter.unusedVariables false
/-- a step's bytes, a proof's bytes -/
def stL (s : AvS) : List Int := truthB s.sec ++ (varint (zig s.many) ++ rowL 32 s.oth)
def stsL (l : List AvS) : List Int := l.flatMap stL
def encL (p : PvP) : List Int := (varint p.key.size ++ numsOf p.key) ++ (varint p.val.size ++ numsOf p.val) ++ varint p.steps.length ++ stsL p.steps
def stBd (s : AvS) : Prop := -9223372036854775808 ≤ s.many ∧ s.many ≤ 9223372036854775807
theorem stsL_snoc (S : List AvS) (k : Nat) (s : AvS) (h : S[k]? = some s) : stsL (S.take (k + 1)) = stsL (S.take k) ++ stL s := by
  rw [List.take_add_one, h]
  simp [stsL]
theorem numsOf_len (s : ByteArray) : (numsOf s).length = s.size := by simp [numsOf]
theorem glen_10 {n : Nat} (h : n < 18446744073709551616) : (varint n).length ≤ 10 := by
  have := glen_le h
  rw [varint_length]; omega
theorem stL_len {s : AvS} (h : stBd s) : (stL s).length ≤ 43 := by
  have := glen_10 (zig_lt h.1 h.2)
  simp only [stL, List.length_append, truthB, List.length_cons, List.length_nil]
  have : (rowL 32 s.oth).length = 32 := by simp [rowL]
  omega
theorem stsL_len : ∀ (l : List AvS), (∀ s ∈ l, stBd s) → (stsL l).length ≤ l.length * 43
  | [], _ => by simp [stsL]
  | s :: l, h => by
    have h1 := stsL_len l fun x hx => h x (by simp [hx])
    have h2 := stL_len (h s (by simp))
    simp only [stsL, List.flatMap_cons, List.length_append, List.length_cons] at h1 ⊢
    omega
/-- a proof's numbers are in their bounds -/
def BdP (p : PvP) : Prop := (∀ s ∈ p.steps, stBd s) ∧ p.key.size + p.val.size ≤ 1048576 ∧ p.steps.length ≤ 1048576
def EnRel (B : Nat) (w2 : World) (g : Nat) (xs : List Int) (wr : World) : Prop := ∃ v, WAt wr g v xs ∧ Below B w2 wr
theorem wpost_next {g B : Nat} {v : Value} {xs ys : List Int} {w2 w w' : World} {e : Ending} (h : WPost g v xs ys w e w') (hw : WAt w g v xs) (hB : Below B w2 w) (hg : B ≤ g) : e = .returned (.pointer (some ⟨g, 0, none⟩)) ∧ ∃ v', WAt w' g v' (xs ++ ys) ∧ WStep g v v' w w' ∧ Below B w2 w' := by
  obtain ⟨h1, v', h2, h3⟩ := h
  exact ⟨h1, v', h2, h3, hB.trans (h3.below hw hg)⟩
set_option maxHeartbeats 4000000 in
theorem pencode_any (p : PvP) (sv : Value) (w : World) (hst : StIn w sv p.steps) (hok : BdP p) :
    Calls Tryz.prog 8 #[.agg (prC p sv)] w fun e w' => ∃ v', e = .returned v' ∧ w'.ownsRow w.heap.size 5 1 v' (encL p).length (byteVals (encL p)) ∧ Below w.heap.size w w' := by
  have HB1 := Lib.hid (below_alloc w (.cells (prC p sv) 31))
  have HC1 := Lib.hid (heap_alloc_new w (.cells (prC p sv) 31))
  have HST := Lib.hid (hst.below HB1.out)
  obtain ⟨sa, c, rfl⟩ := hst.len
  obtain ⟨n, hn⟩ : ∃ n, n = p.steps.length := ⟨_, rfl⟩
  have HN := Lib.hid hn
  have HOK := Lib.hid hok
  have hn1 : n ≤ 1048576 := by rw [hn]; exact hok.2.2
  have hwr : IntKind.u64.wrap (n : Int) = (n : Int) := IntWalk.u64_in _ (by omega)
  rw [← hn] at HC1 HB1 HST ⊢
  obtain ⟨KK, hK⟩ : ∃ k, k = p.key := ⟨_, rfl⟩
  obtain ⟨V, hV⟩ : ∃ v, v = p.val := ⟨_, rfl⟩
  have HKV := Lib.hid (show KK.size + V.size ≤ 1048576 by rw [hK, hV]; exact hok.2.1)
  obtain ⟨S, hS⟩ : ∃ s, s = p.steps := ⟨_, rfl⟩
  have HEN := Lib.hid (show encL p = (varint KK.size ++ numsOf KK) ++ (varint V.size ++ numsOf V) ++ varint n ++ stsL S by rw [hK, hV, hS, hn]; rfl)
  have HBD := Lib.hid (show ∀ s ∈ S, stBd s by rw [hS]; exact hok.1)
  have HSL := Lib.hid (show S.length = n by rw [hS, hn])
  unfold prC at *
  rw [← hK, ← hV] at HC1 HB1 HST ⊢
  rw [← hS] at HST
  clear hst hok hn hK hV hS HN HOK
  go_enter Tryz.func8, Tryz.ntmps8
  go_upto_region 1 with (fail)
  generalize w.alloc (.cells #[.string KK, .string V, .slice sa n c] 31) = w1 at *
  refine wp_region_T (fun X => X.cell? ⟨w.heap.size, 0, none⟩ = some (.string KK) ∧ X.cell? ⟨w.heap.size, 1, none⟩ = some (.string V) ∧ X.cell? ⟨w.heap.size, 2, none⟩ = some (.slice sa n c)) [0, 2, 3, 5, 6, 8] (by kernel_rfl) ?_
  replace HB1 := Lib.hid (HB1.out.drew)
  replace HC1 := Lib.hid (show w1.drew.heap[w.heap.size]? = _ from HC1.out)
  replace HST := Lib.hid (HST.out.below (Below.refl _ _).drew)
  generalize w1.drew = w2 at *
  have HLT := Lib.hid (Array.getElem?_eq_some_iff.1 HC1.out).1
  have HSX := Lib.hid (show ∀ X, Below w2.heap.size w2 X → X.cell? ⟨w.heap.size, 0, none⟩ = some (.string KK) ∧ X.cell? ⟨w.heap.size, 1, none⟩ = some (.string V) ∧ X.cell? ⟨w.heap.size, 2, none⟩ = some (.slice sa n c) from fun X hb =>
    ⟨(hb.cell (p := ⟨w.heap.size, 0, none⟩) HLT.out).trans (cell_of_row _ _ 0 _ _ _ HC1.out), (hb.cell (p := ⟨w.heap.size, 1, none⟩) HLT.out).trans (cell_of_row _ _ 1 _ _ _ HC1.out), (hb.cell (p := ⟨w.heap.size, 2, none⟩) HLT.out).trans (cell_of_row _ _ 2 _ _ _ HC1.out)⟩)
  have HB := Lib.hid (Below.refl w2.heap.size w2)
  refine anyT_takeY (i := 1) (v := .pointer (some ⟨w.heap.size, 0, none⟩)) rfl (by kernel_rfl) (by kernel_rfl) (by kernel_rfl) (fun _ _ _ h => h) (by kernel_rfl) (Or.inl ⟨by rfl, by intro w; go_simp⟩) ?_
  try simp only [List.getElem_toArray, List.getElem_cons_succ, List.getElem_cons_zero, Act.put, List.setIfInBounds_toArray, List.set_cons_zero, List.set_cons_succ]
  refine anyT_takeY (i := 4) (v := .pointer (some ⟨w.heap.size, 1, none⟩)) rfl (by kernel_rfl) (by kernel_rfl) (by kernel_rfl) (fun _ _ _ h => h) (by kernel_rfl) (Or.inl ⟨by rfl, by intro w; go_simp⟩) ?_
  try simp only [List.getElem_toArray, List.getElem_cons_succ, List.getElem_cons_zero, Act.put, List.setIfInBounds_toArray, List.set_cons_zero, List.set_cons_succ]
  refine anyT_takeY (i := 7) (v := .pointer (some ⟨w.heap.size, 2, none⟩)) rfl (by kernel_rfl) (by kernel_rfl) (by kernel_rfl) (fun _ _ _ h => h) (by kernel_rfl) (Or.inl ⟨by rfl, by intro w; go_simp⟩) ?_
  try simp only [List.getElem_toArray, List.getElem_cons_succ, List.getElem_cons_zero, Act.put, List.setIfInBounds_toArray, List.set_cons_zero, List.set_cons_succ]
  refine anyT_take [9, 10, 11, 12] (i := 8) (v := .slice sa n c) rfl (by kernel_rfl) (by kernel_rfl) (by kernel_rfl) (fun _ _ _ h => h) (by kernel_rfl) (Or.inl ⟨by rfl, fun w' hS => by have c := hS.2.2; go_simp⟩) (HSX.out _ HB.out) ?_
  try simp only [List.getElem_toArray, List.getElem_cons_succ, List.getElem_cons_zero, Act.put, List.setIfInBounds_toArray, List.set_cons_zero, List.set_cons_succ]
  refine anyT_takeY (i := 9) (v := .int .i64 (n : Int)) rfl (by kernel_rfl) (by kernel_rfl) (by kernel_rfl) (fun _ _ _ h => h) (by kernel_rfl) (Or.inl ⟨by rfl, by intro w; go_simp⟩) ?_
  try simp only [List.getElem_toArray, List.getElem_cons_succ, List.getElem_cons_zero, Act.put, List.setIfInBounds_toArray, List.set_cons_zero, List.set_cons_succ]
  refine anyT_takeY (i := 10) (v := .int .u64 (n : Int)) rfl (by kernel_rfl) (by kernel_rfl) (by kernel_rfl) (fun _ _ _ h => h) (by kernel_rfl) (Or.inl ⟨by rfl, by intro w; go_simp⟩) ?_
  try simp only [List.getElem_toArray, List.getElem_cons_succ, List.getElem_cons_zero, Act.put, List.setIfInBounds_toArray, List.set_cons_zero, List.set_cons_succ]
  refine anyT_take [3, 6, 11, 12] (i := 2) (v := .string KK) rfl (by kernel_rfl) (by kernel_rfl) (by kernel_rfl) (fun _ _ _ h => h) (by kernel_rfl) (Or.inl ⟨by rfl, fun w' hS => by have c := hS.1; go_simp⟩) (HSX.out _ HB.out) ?_
  try simp only [List.getElem_toArray, List.getElem_cons_succ, List.getElem_cons_zero, Act.put, List.setIfInBounds_toArray, List.set_cons_zero, List.set_cons_succ]
  refine anyT_take [6, 11, 12] (i := 5) (v := .string V) rfl (by kernel_rfl) (by kernel_rfl) (by kernel_rfl) (fun _ _ _ h => h) (by kernel_rfl) (Or.inl ⟨by rfl, fun w' hS => by have c := hS.2.1; go_simp⟩) (HSX.out _ HB.out) ?_
  try simp only [List.getElem_toArray, List.getElem_cons_succ, List.getElem_cons_zero, Act.put, List.setIfInBounds_toArray, List.set_cons_zero, List.set_cons_succ]
  refine anyT_one (i := 0) (by kernel_rfl) rfl (fun K hK => ?_)
  rw [if_pos (by rfl)]
  try simp only [List.getElem_toArray, List.getElem_cons_succ, List.getElem_cons_zero]
  (go_simp; refine (new_any w2).mono ?_; rintro e w3 ⟨rfl, hw, hb⟩; have HW := Lib.hid hw; replace HB := Lib.hid hb; clear hw hb)
  refine hK _ _ (fun _ => HSX.out _ HB.out) ?_
  clear hK K
  try simp only [List.getElem_toArray, List.getElem_cons_succ, List.getElem_cons_zero, Act.put, List.setIfInBounds_toArray, List.set_cons_zero, List.set_cons_succ]
  refine anyT_one (i := 3) (by kernel_rfl) rfl (fun K hK => ?_)
  rw [if_pos (by rfl)]
  try simp only [List.getElem_toArray, List.getElem_cons_succ, List.getElem_cons_zero]
  (go_simp; refine (wtext_any w2.heap.size _ KK [] w3 HW.out (by have := HKV.out; simp only [List.length_nil]; omega)).mono ?_; intro e w4 hpost; obtain ⟨rfl, v4, hw, hs, hb⟩ := wpost_next hpost HW.out HB.out (Nat.le_refl _); replace HW := Lib.hid hw; replace HB := Lib.hid hb; clear hw hs hb hpost)
  refine hK _ _ (fun _ => HSX.out _ HB.out) ?_
  clear hK K
  try simp only [List.getElem_toArray, List.getElem_cons_succ, List.getElem_cons_zero, Act.put, List.setIfInBounds_toArray, List.set_cons_zero, List.set_cons_succ]
  refine anyT_one (i := 6) (by kernel_rfl) rfl (fun K hK => ?_)
  rw [if_pos (by rfl)]
  try simp only [List.getElem_toArray, List.getElem_cons_succ, List.getElem_cons_zero]
  (go_simp; refine (wtext_any w2.heap.size _ V _ w4 HW.out (by have := HKV.out; have := glen_10 (n := KK.size) (by omega); simp only [List.length_append, List.length_nil, numsOf_len]; omega)).mono ?_; intro e w5 hpost; obtain ⟨rfl, v5, hw, hs, hb⟩ := wpost_next hpost HW.out HB.out (Nat.le_refl _); replace HW := Lib.hid hw; replace HB := Lib.hid hb; clear hw hs hb hpost)
  refine hK _ _ (fun _ => HSX.out _ HB.out) ?_
  clear hK K
  try simp only [List.getElem_toArray, List.getElem_cons_succ, List.getElem_cons_zero, Act.put, List.setIfInBounds_toArray, List.set_cons_zero, List.set_cons_succ]
  refine anyT_one (i := 11) (by kernel_rfl) rfl (fun K hK => ?_)
  rw [if_pos (by rfl)]
  try simp only [List.getElem_toArray, List.getElem_cons_succ, List.getElem_cons_zero]
  (go_simp; refine (wuint_any w2.heap.size _ _ n w5 HW.out (by omega) (by have := HKV.out; have := glen_10 (n := KK.size) (by omega); have := glen_10 (n := V.size) (by omega); simp only [List.length_append, List.length_nil, numsOf_len]; omega)).mono ?_; intro e w6 hpost; obtain ⟨rfl, v6, hw, hs, hb⟩ := wpost_next hpost HW.out HB.out (Nat.le_refl _); replace HW := Lib.hid hw; replace HB := Lib.hid hb; clear hw hs hb hpost)
  refine hK _ _ (not_mem rfl) ?_
  clear hK K
  try simp only [List.getElem_toArray, List.getElem_cons_succ, List.getElem_cons_zero, Act.put, List.setIfInBounds_toArray, List.set_cons_zero, List.set_cons_succ]
  refine anyT_takeY (i := 12) (v := .pointer (some ⟨w2.heap.size, 0, none⟩)) rfl (by kernel_rfl) (by kernel_rfl) (by kernel_rfl) (fun _ _ _ h => h) (by kernel_rfl) (Or.inl ⟨by rfl, by intro w; go_simp⟩) ?_
  try simp only [List.getElem_toArray, List.getElem_cons_succ, List.getElem_cons_zero, Act.put, List.setIfInBounds_toArray, List.set_cons_zero, List.set_cons_succ]
  refine anyT_done (by kernel_rfl) ?_ _
  clear hwr
  obtain ⟨PR, hPR⟩ : ∃ l, l = (varint KK.size ++ numsOf KK) ++ (varint V.size ++ numsOf V) ++ varint n := ⟨_, rfl⟩
  have HR0 := Lib.hid (show EnRel w2.heap.size w2 w2.heap.size (PR ++ stsL (S.take 0)) w6 from ⟨v6, by have := HW.out; rw [hPR]; simpa [stsL, List.append_assoc] using this, HB.out⟩)
  have HPL := Lib.hid (show PR.length ≤ 1048576 + 40 by
    have := HKV.out
    have h1 := glen_10 (n := KK.size) (by omega)
    have h2 := glen_10 (n := V.size) (by omega)
    have h3 := glen_10 (n := n) (by omega)
    rw [hPR]; simp only [List.length_append, numsOf_len]; omega)
  have HEN2 := Lib.hid (show encL p = PR ++ stsL S by rw [HEN.out, hPR])
  obtain ⟨-, -, c2⟩ := HSX.out _ HB.out
  obtain ⟨g, hg⟩ : ∃ g, g = w2.heap.size := ⟨_, rfl⟩
  have HG := Lib.hid hg
  rw [← hg] at HR0 HSX HB HLT ⊢
  clear hPR HW HEN hg
  go_wp2_with (fail)
  clear c2
  go_loopw [21] (fun x wr => ∃ k : Nat, k ≤ n ∧ x = .int .i64 (k : Int) ∧ Hid (EnRel g w2 g (PR ++ stsL (S.take k)) wr)) (fun x _ => n - (intOf x).toNat)
  case atStart => exact ⟨0, Nat.zero_le _, rfl, HR0⟩
  case round =>
    clear HR0 HB w6
    obtain ⟨k, hkn, rfl, HR⟩ := hrel
    by_cases hlt : k < n
    · obtain ⟨s, hs⟩ : ∃ s, S[k]? = some s := ⟨S[k]'(by rw [HSL.out]; exact hlt), List.getElem?_eq_getElem (by rw [HSL.out]; exact hlt)⟩
      have HSB := Lib.hid (HBD.out s (List.mem_of_getElem? hs))
      have HSS := Lib.hid (stsL_snoc S k s hs)
      have HST2 := HST.out
      obtain ⟨ab, ao, rfl, hab, hrg⟩ := HST2.at k s hs
      have HLEN := Lib.hid (show (PR ++ stsL (S.take k)).length ≤ 50000000 by
        have h1 := HPL.out
        have h2 := stsL_len (S.take k) (fun x hx => HBD.out x (List.mem_of_mem_take hx))
        rw [List.length_take] at h2
        rw [List.length_append]; omega)
      obtain ⟨v, hw, hb⟩ := HR.out
      have HRG := Lib.hid (range_below hrg hb (by rw [HG.out]; exact hab))
      have HW := Lib.hid hw
      have HB := Lib.hid hb
      obtain ⟨XS, hXS⟩ : ∃ xs, xs = PR ++ stsL (S.take k) := ⟨_, rfl⟩
      rw [← hXS] at HW HLEN
      have HXS := Lib.hid hXS
      have hI : (k : Int) < (n : Int) := by omega
      clear hs hrg hab HST2 hw hb hXS HR
      go_upto_region 5 with (first
        | (refine wpList_load_rowsz (by rfl) 65 (.tmp 23) rfl ab (ao + k * 34) rfl (stC s) _ HRG.out Tryz.underlying65 rfl (by rw [stC_size]; kernel_rfl) ?_)
        | (refine wpList_store_row rfl 65 (.tmp 5) (.tmp 24) rfl wr.heap.size (stC s) rfl rfl 65 _ (heap_alloc_new _ _) (by rw [stC_size]; kernel_rfl) (by rw [stC_size]; rfl) (stC_one s) ?_; rw [World.setRow_alloc_new]))
      have H5 := Lib.hid (heap_alloc_new wr (.cells (stC s) 65))
      have HL5 := Lib.hid (show wr.heap.size < (wr.alloc (.cells (stC s) 65)).heap.size by simp)
      have HNE := Lib.hid (show wr.heap.size ≠ g ∧ some wr.heap.size ≠ v.ownBlock from ⟨by have := HW.out.lt; omega, fun e => by have := (HW.out.ne _ e.symm).2; omega⟩)
      replace HB := Lib.hid (HB.out.trans ((below_alloc wr (.cells (stC s) 65)).mono (by have := HW.out.lt; omega)))
      replace HW := Lib.hid (HW.out.below (below_alloc wr (.cells (stC s) 65)))
      obtain ⟨g5, hg5⟩ : ∃ x, x = wr.heap.size := ⟨_, rfl⟩
      rw [← hg5] at H5 HL5 HNE ⊢
      clear hg5
      generalize wr.alloc (.cells (stC s) 65) = w5 at *
      refine wp_region_T (fun X => X.cell? ⟨g5, 0, none⟩ = some (.bool s.sec) ∧ X.cell? ⟨g5, 1, none⟩ = some (.int .i64 s.many) ∧ X.rangeAt g5 2 (rowOf .u8 32 s.oth).toList) [2, 3, 5, 6, 8] (by kernel_rfl) ?_
      replace H5 := Lib.hid (show w5.drew.heap[g5]? = _ from H5.out)
      replace HL5 := Lib.hid (show g5 < w5.drew.heap.size from HL5.out)
      replace HB := Lib.hid HB.out.drew
      replace HW := Lib.hid (HW.out.below (Below.refl _ _).drew)
      generalize w5.drew = w6 at *
      have HSY := Lib.hid (show ∀ v' X, WStep g v v' w6 X → X.cell? ⟨g5, 0, none⟩ = some (.bool s.sec) ∧ X.cell? ⟨g5, 1, none⟩ = some (.int .i64 s.many) ∧ X.rangeAt g5 2 (rowOf .u8 32 s.oth).toList from fun v' X hs =>
        st_cells (s := s) ((hs.block g5 HL5.out HNE.out.1 HNE.out.2).trans H5.out))
      have HWS := Lib.hid (WStep.refl g v w6)
      have HGG := Lib.hid (Nat.le_refl g)
      refine anyT_takeY (i := 0) (v := .pointer (some ⟨g, 0, none⟩)) rfl (by kernel_rfl) (by kernel_rfl) (by kernel_rfl) (fun _ _ _ h => h) (by kernel_rfl) (Or.inl ⟨by rfl, by intro w; go_simp⟩) ?_
      try simp only [List.getElem_toArray, List.getElem_cons_succ, List.getElem_cons_zero, Act.put, List.setIfInBounds_toArray, List.set_cons_zero, List.set_cons_succ]
      refine anyT_takeY (i := 1) (v := .pointer (some ⟨g5, 0, none⟩)) rfl (by kernel_rfl) (by kernel_rfl) (by kernel_rfl) (fun _ _ _ h => h) (by kernel_rfl) (Or.inl ⟨by rfl, by intro w; go_simp⟩) ?_
      try simp only [List.getElem_toArray, List.getElem_cons_succ, List.getElem_cons_zero, Act.put, List.setIfInBounds_toArray, List.set_cons_zero, List.set_cons_succ]
      refine anyT_takeY (i := 4) (v := .pointer (some ⟨g5, 1, none⟩)) rfl (by kernel_rfl) (by kernel_rfl) (by kernel_rfl) (fun _ _ _ h => h) (by kernel_rfl) (Or.inl ⟨by rfl, by intro w; go_simp⟩) ?_
      try simp only [List.getElem_toArray, List.getElem_cons_succ, List.getElem_cons_zero, Act.put, List.setIfInBounds_toArray, List.set_cons_zero, List.set_cons_succ]
      refine anyT_takeY (i := 7) (v := .pointer (some ⟨g5, 2, none⟩)) rfl (by kernel_rfl) (by kernel_rfl) (by kernel_rfl) (fun _ _ _ h => h) (by kernel_rfl) (Or.inl ⟨by rfl, by intro w; go_simp⟩) ?_
      try simp only [List.getElem_toArray, List.getElem_cons_succ, List.getElem_cons_zero, Act.put, List.setIfInBounds_toArray, List.set_cons_zero, List.set_cons_succ]
      refine anyT_take [3, 6, 9] (i := 2) (v := .bool s.sec) rfl (by kernel_rfl) (by kernel_rfl) (by kernel_rfl) (fun _ _ _ h => h) (by kernel_rfl) (Or.inl ⟨by rfl, fun w' hS => by have c := hS.1; go_simp⟩) (HSY.out _ _ HWS.out) ?_
      try simp only [List.getElem_toArray, List.getElem_cons_succ, List.getElem_cons_zero, Act.put, List.setIfInBounds_toArray, List.set_cons_zero, List.set_cons_succ]
      refine anyT_take [6, 9] (i := 5) (v := .int .i64 s.many) rfl (by kernel_rfl) (by kernel_rfl) (by kernel_rfl) (fun _ _ _ h => h) (by kernel_rfl) (Or.inl ⟨by rfl, fun w' hS => by have c := hS.2.1; go_simp⟩) (HSY.out _ _ HWS.out) ?_
      try simp only [List.getElem_toArray, List.getElem_cons_succ, List.getElem_cons_zero, Act.put, List.setIfInBounds_toArray, List.set_cons_zero, List.set_cons_succ]
      refine anyT_take [9] (i := 8) (v := .agg (rowOf .u8 32 s.oth)) rfl (by kernel_rfl) (by kernel_rfl) (by kernel_rfl) (fun _ _ _ h => h) (by kernel_rfl) (row_yields_mid (by rfl) 62 (.tmp 32) rfl g5 2 rfl .u8 32 _ _ (fun _ h => h.2.2) Tryz.underlying62 rfl (by kernel_rfl)) (HSY.out _ _ HWS.out) ?_
      try simp only [List.getElem_toArray, List.getElem_cons_succ, List.getElem_cons_zero, Act.put, List.setIfInBounds_toArray, List.set_cons_zero, List.set_cons_succ]
      refine anyT_one (i := 3) (by kernel_rfl) rfl (fun K hK => ?_)
      rw [if_pos (by rfl)]
      try simp only [List.getElem_toArray, List.getElem_cons_succ, List.getElem_cons_zero]
      (go_simp; refine (wbool_any g _ XS s.sec w6 HW.out (by have := HLEN.out; omega)).mono ?_; intro e w7 hpost; obtain ⟨rfl, v7, hw, hs, hb⟩ := wpost_next hpost HW.out HB.out HGG.out; replace HW := Lib.hid hw; replace HB := Lib.hid hb; replace HWS := Lib.hid (HWS.out.trans hs); clear hw hs hb hpost)
      refine hK _ _ (fun _ => HSY.out _ _ HWS.out) ?_
      clear hK K
      try simp only [List.getElem_toArray, List.getElem_cons_succ, List.getElem_cons_zero, Act.put, List.setIfInBounds_toArray, List.set_cons_zero, List.set_cons_succ]
      refine anyT_one (i := 6) (by kernel_rfl) rfl (fun K hK => ?_)
      rw [if_pos (by rfl)]
      try simp only [List.getElem_toArray, List.getElem_cons_succ, List.getElem_cons_zero]
      (go_simp; refine (wint_any g _ s.many _ w7 HW.out HSB.out.1 HSB.out.2 (by have := HLEN.out; simp only [List.length_append, truthB, List.length_cons, List.length_nil]; omega)).mono ?_; intro e w8 hpost; obtain ⟨rfl, v8, hw, hs, hb⟩ := wpost_next hpost HW.out HB.out HGG.out; replace HW := Lib.hid hw; replace HB := Lib.hid hb; replace HWS := Lib.hid (HWS.out.trans hs); clear hw hs hb hpost)
      refine hK _ _ (fun _ => HSY.out _ _ HWS.out) ?_
      clear hK K
      try simp only [List.getElem_toArray, List.getElem_cons_succ, List.getElem_cons_zero, Act.put, List.setIfInBounds_toArray, List.set_cons_zero, List.set_cons_succ]
      refine anyT_one (i := 9) (by kernel_rfl) rfl (fun K hK => ?_)
      rw [if_pos (by rfl)]
      try simp only [List.getElem_toArray, List.getElem_cons_succ, List.getElem_cons_zero]
      (go_simp; refine (whash_any g _ _ s.oth w8 HW.out (by have := HLEN.out; have := glen_10 (zig_lt HSB.out.1 HSB.out.2); simp only [List.length_append, truthB, List.length_cons, List.length_nil]; omega)).mono ?_; intro e w9 hpost; obtain ⟨rfl, v9, hw, hs, hb⟩ := wpost_next hpost HW.out HB.out HGG.out; replace HW := Lib.hid hw; replace HB := Lib.hid hb; clear hw hs hb hpost)
      refine hK _ _ (not_mem rfl) ?_
      clear hK K
      try simp only [List.getElem_toArray, List.getElem_cons_succ, List.getElem_cons_zero, Act.put, List.setIfInBounds_toArray, List.set_cons_zero, List.set_cons_succ]
      refine anyT_done (by kernel_rfl) ?_ _
      go_wp2_with (fail)
      go_roundw
      case rel => exact ⟨k + 1, by omega, by go_num, Lib.hid ⟨v9, by have := HW.out; rw [HSS.out, ← List.append_assoc, ← HXS.out]; simpa [stL, List.append_assoc] using this, HB.out⟩⟩
      case measure => simp [intOf]; omega
    · obtain rfl : k = n := by omega
      obtain ⟨v, hw, hb⟩ := HR.out
      have HW := Lib.hid (show WAt wr g v (encL p) by rw [HEN2.out]; rw [← HSL.out, List.take_length] at hw; exact hw)
      have HB := Lib.hid hb
      have HLEN := Lib.hid (show (encL p).length ≤ 50000000 by
        have h1 := HPL.out
        have h2 := stsL_len S HBD.out
        rw [HEN2.out, List.length_append]; have := HSL.out; omega)
      clear hw hb HR
      go_wp2_with (go_at_call 38; (with_reducible refine (done_any g v (encL p) wr HW.out (by have := HLEN.out; omega)).mono ?_); rintro e w9 ⟨v9, rfl, ho, hb⟩; have HO := Lib.hid ho; have HB9 := Lib.hid hb; clear ho hb)
      go_ret
      exact ⟨v9, rfl, ownsRow_base HO.out (by have h1 := HB.out.size; have h2 := HB1.out.size; omega), (HB1.out.trans (HB.out.mono (by rw [HG.out]; exact HB1.out.size))).trans (HB9.out.mono (by have h1 := HB.out.size; have h2 := HB1.out.size; omega))⟩
theorem st_at {w : World} {b o : Nat} {s : AvS} (h : w.rangeAt b o s.cells) : w.cell? ⟨b, o, none⟩ = some (.bool s.sec) ∧ w.cell? ⟨b, o + 1, none⟩ = some (.int .i64 s.many) ∧ w.rangeAt b (o + 2) (rowOf .u8 32 s.oth).toList := by
  have h0 := h 0 (.bool s.sec) (by simp [AvS.cells, stC])
  have h1 := h 1 (.int .i64 s.many) (by simp [AvS.cells, stC])
  refine ⟨h0, h1, fun j v hv => ?_⟩
  have := h (2 + j) v (by simp only [AvS.cells, stC, Array.toList_append]; rw [List.getElem?_append_right (by simp)]; simpa using hv)
  rwa [← Nat.add_assoc] at this
def InPost (xs : List Int) (w : World) (e : Ending) (w' : World) : Prop := ∃ v', e = .returned v' ∧ BytesIn w' v' xs ∧ Below w.heap.size w w'
theorem refp_in {bs ys : List Int} {w : World} {e : Ending} {w' : World} (h : RefPost bs ys w e w') (hl : (bs ++ ys).length ≤ maxLen) : InPost (bs ++ ys) w e w' := by
  obtain ⟨v', h1, h2, h3⟩ := h
  exact ⟨v', h1, owns_in h2 hl, h3⟩
theorem slice_of {w : World} {v : Value} {xs : List Int} (h : BytesIn w v xs) : ∃ a n c, v = .slice a n c := by obtain ⟨a, c, e, _⟩ := h; exact ⟨a, _, c, e⟩
def EnRelD (w2 : World) (xs : List Int) (v : Value) (wr : World) : Prop := BytesIn wr v xs ∧ Below w2.heap.size w2 wr
set_option maxHeartbeats 4000000 in
theorem dencode_any (p : PvP) (sv : Value) (w : World) (hst : StIn w sv p.steps) (hok : BdP p) :
    Calls Tryz.prog 10 #[.agg (prC p sv)] w (InPost (encL p) w) := by
  have HB1 := Lib.hid (below_alloc w (.cells (prC p sv) 24))
  have HC1 := Lib.hid (heap_alloc_new w (.cells (prC p sv) 24))
  have HST := Lib.hid (hst.below HB1.out)
  obtain ⟨sa, c, rfl⟩ := hst.len
  obtain ⟨n, hn⟩ : ∃ n, n = p.steps.length := ⟨_, rfl⟩
  have hn1 : n ≤ 1048576 := by rw [hn]; exact hok.2.2
  have hwr : IntKind.u64.wrap (n : Int) = (n : Int) := IntWalk.u64_in _ (by omega)
  rw [← hn] at HC1 HB1 HST ⊢
  obtain ⟨KK, hK⟩ : ∃ k, k = p.key := ⟨_, rfl⟩
  obtain ⟨V, hV⟩ : ∃ v, v = p.val := ⟨_, rfl⟩
  have HKV := Lib.hid (show KK.size + V.size ≤ 1048576 by rw [hK, hV]; exact hok.2.1)
  obtain ⟨S, hS⟩ : ∃ s, s = p.steps := ⟨_, rfl⟩
  have HEN := Lib.hid (show encL p = (varint KK.size ++ numsOf KK) ++ (varint V.size ++ numsOf V) ++ varint n ++ stsL S by rw [hK, hV, hS, hn]; rfl)
  have HBD := Lib.hid (show ∀ s ∈ S, stBd s by rw [hS]; exact hok.1)
  have HSL := Lib.hid (show S.length = n by rw [hS, hn])
  unfold prC at *
  rw [← hK, ← hV] at HC1 HB1 HST ⊢
  rw [← hS] at HST
  clear hst hok hn hK hV hS
  have HG10 := Lib.hid (show (varint KK.size).length ≤ 10 ∧ (varint V.size).length ≤ 10 ∧ (varint n).length ≤ 10 from ⟨glen_10 (by have := HKV.out; omega), glen_10 (by have := HKV.out; omega), glen_10 (by omega)⟩)
  unfold InPost
  go_enter Tryz.func10, Tryz.ntmps10
  go_upto_region 1 with (fail)
  generalize w.alloc (.cells #[.string KK, .string V, .slice sa n c] 24) = w1 at *
  refine wp_region_T (fun X => X.cell? ⟨w.heap.size, 0, none⟩ = some (.string KK) ∧ X.cell? ⟨w.heap.size, 1, none⟩ = some (.string V) ∧ X.cell? ⟨w.heap.size, 2, none⟩ = some (.slice sa n c)) [1, 2, 4, 5, 7] (by kernel_rfl) ?_
  replace HB1 := Lib.hid (HB1.out.drew)
  replace HC1 := Lib.hid (show w1.drew.heap[w.heap.size]? = _ from HC1.out)
  replace HST := Lib.hid (HST.out.below (Below.refl _ _).drew)
  generalize w1.drew = w2 at *
  have HLT := Lib.hid (Array.getElem?_eq_some_iff.1 HC1.out).1
  have HSX := Lib.hid (show ∀ X, Below w2.heap.size w2 X → X.cell? ⟨w.heap.size, 0, none⟩ = some (.string KK) ∧ X.cell? ⟨w.heap.size, 1, none⟩ = some (.string V) ∧ X.cell? ⟨w.heap.size, 2, none⟩ = some (.slice sa n c) from fun X hb =>
    ⟨(hb.cell (p := ⟨w.heap.size, 0, none⟩) HLT.out).trans (cell_of_row _ _ 0 _ _ _ HC1.out), (hb.cell (p := ⟨w.heap.size, 1, none⟩) HLT.out).trans (cell_of_row _ _ 1 _ _ _ HC1.out), (hb.cell (p := ⟨w.heap.size, 2, none⟩) HLT.out).trans (cell_of_row _ _ 2 _ _ _ HC1.out)⟩)
  have HB := Lib.hid (Below.refl w2.heap.size w2)
  refine anyT_takeY (i := 0) (v := .pointer (some ⟨w.heap.size, 0, none⟩)) rfl (by kernel_rfl) (by kernel_rfl) (by kernel_rfl) (fun _ _ _ h => h) (by kernel_rfl) (Or.inl ⟨by rfl, by intro w; go_simp⟩) ?_
  try simp only [List.getElem_toArray, List.getElem_cons_succ, List.getElem_cons_zero, Act.put, List.setIfInBounds_toArray, List.set_cons_zero, List.set_cons_succ]
  refine anyT_takeY (i := 3) (v := .pointer (some ⟨w.heap.size, 1, none⟩)) rfl (by kernel_rfl) (by kernel_rfl) (by kernel_rfl) (fun _ _ _ h => h) (by kernel_rfl) (Or.inl ⟨by rfl, by intro w; go_simp⟩) ?_
  try simp only [List.getElem_toArray, List.getElem_cons_succ, List.getElem_cons_zero, Act.put, List.setIfInBounds_toArray, List.set_cons_zero, List.set_cons_succ]
  refine anyT_takeY (i := 6) (v := .pointer (some ⟨w.heap.size, 2, none⟩)) rfl (by kernel_rfl) (by kernel_rfl) (by kernel_rfl) (fun _ _ _ h => h) (by kernel_rfl) (Or.inl ⟨by rfl, by intro w; go_simp⟩) ?_
  try simp only [List.getElem_toArray, List.getElem_cons_succ, List.getElem_cons_zero, Act.put, List.setIfInBounds_toArray, List.set_cons_zero, List.set_cons_succ]
  refine anyT_take [8, 9, 10, 11] (i := 7) (v := .slice sa n c) rfl (by kernel_rfl) (by kernel_rfl) (by kernel_rfl) (fun _ _ _ h => h) (by kernel_rfl) (Or.inl ⟨by rfl, fun w' hS => by have c := hS.2.2; go_simp⟩) (HSX.out _ HB.out) ?_
  try simp only [List.getElem_toArray, List.getElem_cons_succ, List.getElem_cons_zero, Act.put, List.setIfInBounds_toArray, List.set_cons_zero, List.set_cons_succ]
  refine anyT_takeY (i := 8) (v := .int .i64 (n : Int)) rfl (by kernel_rfl) (by kernel_rfl) (by kernel_rfl) (fun _ _ _ h => h) (by kernel_rfl) (Or.inl ⟨by rfl, by intro w; go_simp⟩) ?_
  try simp only [List.getElem_toArray, List.getElem_cons_succ, List.getElem_cons_zero, Act.put, List.setIfInBounds_toArray, List.set_cons_zero, List.set_cons_succ]
  refine anyT_takeY (i := 9) (v := .int .u64 (n : Int)) rfl (by kernel_rfl) (by kernel_rfl) (by kernel_rfl) (fun _ _ _ h => h) (by kernel_rfl) (Or.inl ⟨by rfl, by intro w; go_simp⟩) ?_
  try simp only [List.getElem_toArray, List.getElem_cons_succ, List.getElem_cons_zero, Act.put, List.setIfInBounds_toArray, List.set_cons_zero, List.set_cons_succ]
  refine anyT_take [2, 5, 10, 11] (i := 1) (v := .string KK) rfl (by kernel_rfl) (by kernel_rfl) (by kernel_rfl) (fun _ _ _ h => h) (by kernel_rfl) (Or.inl ⟨by rfl, fun w' hS => by have c := hS.1; go_simp⟩) (HSX.out _ HB.out) ?_
  try simp only [List.getElem_toArray, List.getElem_cons_succ, List.getElem_cons_zero, Act.put, List.setIfInBounds_toArray, List.set_cons_zero, List.set_cons_succ]
  refine anyT_take [5, 10, 11] (i := 4) (v := .string V) rfl (by kernel_rfl) (by kernel_rfl) (by kernel_rfl) (fun _ _ _ h => h) (by kernel_rfl) (Or.inl ⟨by rfl, fun w' hS => by have c := hS.2.1; go_simp⟩) (HSX.out _ HB.out) ?_
  try simp only [List.getElem_toArray, List.getElem_cons_succ, List.getElem_cons_zero, Act.put, List.setIfInBounds_toArray, List.set_cons_zero, List.set_cons_succ]
  refine anyT_one (i := 2) (by kernel_rfl) rfl (fun K hK => ?_)
  rw [if_pos (by rfl)]
  try simp only [List.getElem_toArray, List.getElem_cons_succ, List.getElem_cons_zero]
  (go_simp; refine (dText_any (.slice none 0 0) [] KK w2 (nil_in w2) (by have := HKV.out; simp only [List.length_nil]; omega)).mono ?_; rintro e w3 ⟨v3, rfl, hx, hb⟩; have HX := Lib.hid hx; replace HB := Lib.hid hb; clear hx hb)
  refine hK _ _ (fun _ => HSX.out _ HB.out) ?_
  clear hK K
  try simp only [List.getElem_toArray, List.getElem_cons_succ, List.getElem_cons_zero, Act.put, List.setIfInBounds_toArray, List.set_cons_zero, List.set_cons_succ]
  refine anyT_one (i := 5) (by kernel_rfl) rfl (fun K hK => ?_)
  rw [if_pos (by rfl)]
  try simp only [List.getElem_toArray, List.getElem_cons_succ, List.getElem_cons_zero]
  (go_simp; refine (dText_any v3 _ V w3 HX.out (by have := HKV.out; have := HG10.out.1; simp only [List.length_append, List.length_nil, numsOf_len]; omega)).mono ?_; rintro e w4 ⟨v4, rfl, hx, hb⟩; replace HX := Lib.hid hx; replace HB := Lib.hid (HB.out.trans (hb.mono HB.out.size)); clear hx hb)
  refine hK _ _ (fun _ => HSX.out _ HB.out) ?_
  clear hK K
  try simp only [List.getElem_toArray, List.getElem_cons_succ, List.getElem_cons_zero, Act.put, List.setIfInBounds_toArray, List.set_cons_zero, List.set_cons_succ]
  refine anyT_one (i := 10) (by kernel_rfl) rfl (fun K hK => ?_)
  rw [if_pos (by rfl)]
  try simp only [List.getElem_toArray, List.getElem_cons_succ, List.getElem_cons_zero]
  (go_simp; refine (dUint_any v4 _ n w4 HX.out (by omega) (by have := HKV.out; have := HG10.out; simp only [List.length_append, List.length_nil, numsOf_len]; omega)).mono ?_; intro e w5 hpost; obtain ⟨v5, rfl, hx, hb⟩ := refp_in hpost (by have := HKV.out; have := HG10.out; simp only [List.length_append, List.length_nil, numsOf_len]; unfold maxLen; omega); replace HX := Lib.hid hx; replace HB := Lib.hid (HB.out.trans (hb.mono HB.out.size)); clear hx hb hpost)
  refine hK _ _ (not_mem rfl) ?_
  clear hK K
  try simp only [List.getElem_toArray, List.getElem_cons_succ, List.getElem_cons_zero, Act.put, List.setIfInBounds_toArray, List.set_cons_zero, List.set_cons_succ]
  refine anyT_takeY (i := 11) (v := v5) rfl (by kernel_rfl) (by kernel_rfl) (by kernel_rfl) (fun _ _ _ h => h) (by kernel_rfl) (Or.inl ⟨by rfl, by intro w; go_simp⟩) ?_
  try simp only [List.getElem_toArray, List.getElem_cons_succ, List.getElem_cons_zero, Act.put, List.setIfInBounds_toArray, List.set_cons_zero, List.set_cons_succ]
  refine anyT_done (by kernel_rfl) ?_ _
  clear hwr
  obtain ⟨PR, hPR⟩ : ∃ l, l = (varint KK.size ++ numsOf KK) ++ (varint V.size ++ numsOf V) ++ varint n := ⟨_, rfl⟩
  have HR0 := Lib.hid (show EnRelD w2 (PR ++ stsL (S.take 0)) v5 w5 from ⟨by have := HX.out; rw [hPR]; simpa [stsL, List.append_assoc] using this, HB.out⟩)
  have HPL := Lib.hid (show PR.length ≤ 1048576 + 40 by
    have := HKV.out
    have h1 := HG10.out
    rw [hPR]; simp only [List.length_append, numsOf_len]; omega)
  have HEN2 := Lib.hid (show encL p = PR ++ stsL S by rw [HEN.out, hPR])
  clear hPR HX HEN
  go_wp2_with (fail)
  go_loopw [3, 4] (fun v x wr => ∃ k : Nat, k ≤ n ∧ x = .int .i64 (k : Int) ∧ Hid (EnRelD w2 (PR ++ stsL (S.take k)) v wr)) (fun _ x _ => n - (intOf x).toNat)
  case atStart => exact ⟨0, Nat.zero_le _, rfl, HR0⟩
  case round =>
    clear HR0 HB w5
    obtain ⟨k, hkn, rfl, HR⟩ := hrel
    obtain ⟨hx, hb⟩ := HR.out
    obtain ⟨xa, xn, xc, rfl⟩ := slice_of hx
    obtain ⟨k0, k1, c2⟩ := HSX.out _ hb
    clear k0 k1
    have HX := Lib.hid hx
    have HB := Lib.hid hb
    clear hx hb HR
    by_cases hlt : k < n
    · obtain ⟨s, hs⟩ : ∃ s, S[k]? = some s := ⟨S[k]'(by rw [HSL.out]; exact hlt), List.getElem?_eq_getElem (by rw [HSL.out]; exact hlt)⟩
      have HSB := Lib.hid (HBD.out s (List.mem_of_getElem? hs))
      have HSS := Lib.hid (stsL_snoc S k s hs)
      have HST2 := HST.out
      obtain ⟨ab, ao, rfl, hab, hrg⟩ := HST2.at k s hs
      have HLEN := Lib.hid (show (PR ++ stsL (S.take k)).length ≤ 50000000 by
        have h1 := HPL.out
        have h2 := stsL_len (S.take k) (fun x hx => HBD.out x (List.mem_of_mem_take hx))
        rw [List.length_take] at h2
        rw [List.length_append]; omega)
      have HSTP := Lib.hid (show ∀ X, Below w2.heap.size w2 X → X.cell? ⟨w.heap.size, 2, none⟩ = some (.slice (some ⟨ab, ao, none⟩) n c) ∧ X.cell? ⟨ab, ao + k * 34, none⟩ = some (.bool s.sec) ∧ X.cell? ⟨ab, ao + k * 34 + 1, none⟩ = some (.int .i64 s.many) ∧ X.rangeAt ab (ao + k * 34 + 2) (rowOf .u8 32 s.oth).toList from fun X hb => ⟨(HSX.out X hb).2.2, st_at (range_below hrg hb hab)⟩)
      obtain ⟨XS, hXS⟩ : ∃ xs, xs = PR ++ stsL (S.take k) := ⟨_, rfl⟩
      rw [← hXS] at HX HLEN
      have HXS := Lib.hid hXS
      have hI : (k : Int) < (n : Int) := by omega
      clear hs hrg hab HST2 hXS
      go_upto_region 5 with (fail)
      clear c2
      refine wp_region_T (fun X => X.cell? ⟨w.heap.size, 2, none⟩ = some (.slice (some ⟨ab, ao, none⟩) n c) ∧ X.cell? ⟨ab, ao + k * 34, none⟩ = some (.bool s.sec) ∧ X.cell? ⟨ab, ao + k * 34 + 1, none⟩ = some (.int .i64 s.many) ∧ X.rangeAt ab (ao + k * 34 + 2) (rowOf .u8 32 s.oth).toList) [2, 6, 7, 9, 11, 12, 13, 14, 16, 18, 19, 20] (by kernel_rfl) ?_
      replace HB := Lib.hid HB.out.drew
      replace HX := Lib.hid (HX.out.below (Below.refl _ _).drew)
      generalize wr.drew = w6 at *
      refine anyT_takeY (i := 0) (v := .slice xa xn xc) rfl (by kernel_rfl) (by kernel_rfl) (by kernel_rfl) (fun _ _ _ h => h) (by kernel_rfl) (Or.inl ⟨by rfl, by intro w; go_simp⟩) ?_
      try simp only [List.getElem_toArray, List.getElem_cons_succ, List.getElem_cons_zero, Act.put, List.setIfInBounds_toArray, List.set_cons_zero, List.set_cons_succ]
      refine anyT_takeY (i := 1) (v := .pointer (some ⟨w.heap.size, 2, none⟩)) rfl (by kernel_rfl) (by kernel_rfl) (by kernel_rfl) (fun _ _ _ h => h) (by kernel_rfl) (Or.inl ⟨by rfl, by intro w; go_simp⟩) ?_
      try simp only [List.getElem_toArray, List.getElem_cons_succ, List.getElem_cons_zero, Act.put, List.setIfInBounds_toArray, List.set_cons_zero, List.set_cons_succ]
      refine anyT_takeY (i := 3) (v := .int .i64 (k : Int)) rfl (by kernel_rfl) (by kernel_rfl) (by kernel_rfl) (fun _ _ _ h => h) (by kernel_rfl) (Or.inl ⟨by rfl, by intro w; go_simp⟩) ?_
      try simp only [List.getElem_toArray, List.getElem_cons_succ, List.getElem_cons_zero, Act.put, List.setIfInBounds_toArray, List.set_cons_zero, List.set_cons_succ]
      refine anyT_takeY (i := 8) (v := .pointer (some ⟨w.heap.size, 2, none⟩)) rfl (by kernel_rfl) (by kernel_rfl) (by kernel_rfl) (fun _ _ _ h => h) (by kernel_rfl) (Or.inl ⟨by rfl, by intro w; go_simp⟩) ?_
      try simp only [List.getElem_toArray, List.getElem_cons_succ, List.getElem_cons_zero, Act.put, List.setIfInBounds_toArray, List.set_cons_zero, List.set_cons_succ]
      refine anyT_takeY (i := 10) (v := .int .i64 (k : Int)) rfl (by kernel_rfl) (by kernel_rfl) (by kernel_rfl) (fun _ _ _ h => h) (by kernel_rfl) (Or.inl ⟨by rfl, by intro w; go_simp⟩) ?_
      try simp only [List.getElem_toArray, List.getElem_cons_succ, List.getElem_cons_zero, Act.put, List.setIfInBounds_toArray, List.set_cons_zero, List.set_cons_succ]
      refine anyT_takeY (i := 15) (v := .pointer (some ⟨w.heap.size, 2, none⟩)) rfl (by kernel_rfl) (by kernel_rfl) (by kernel_rfl) (fun _ _ _ h => h) (by kernel_rfl) (Or.inl ⟨by rfl, by intro w; go_simp⟩) ?_
      try simp only [List.getElem_toArray, List.getElem_cons_succ, List.getElem_cons_zero, Act.put, List.setIfInBounds_toArray, List.set_cons_zero, List.set_cons_succ]
      refine anyT_takeY (i := 17) (v := .int .i64 (k : Int)) rfl (by kernel_rfl) (by kernel_rfl) (by kernel_rfl) (fun _ _ _ h => h) (by kernel_rfl) (Or.inl ⟨by rfl, by intro w; go_simp⟩) ?_
      try simp only [List.getElem_toArray, List.getElem_cons_succ, List.getElem_cons_zero, Act.put, List.setIfInBounds_toArray, List.set_cons_zero, List.set_cons_succ]
      refine anyT_take [4, 5, 6, 7, 14, 21, 22] (i := 2) (v := .slice (some ⟨ab, ao, none⟩) n c) rfl (by kernel_rfl) (by kernel_rfl) (by kernel_rfl) (fun _ _ _ h => h) (by kernel_rfl) (Or.inl ⟨by rfl, fun w' hS => by have c := hS.1; go_simp⟩) (HSTP.out _ HB.out) ?_
      try simp only [List.getElem_toArray, List.getElem_cons_succ, List.getElem_cons_zero, Act.put, List.setIfInBounds_toArray, List.set_cons_zero, List.set_cons_succ]
      refine anyT_takeY (i := 4) (v := .pointer (some ⟨ab, ao + k * 34, none⟩)) rfl (by kernel_rfl) (by kernel_rfl) (by kernel_rfl) (fun _ _ _ h => h) (by kernel_rfl) (Or.inl ⟨by rfl, by intro w; go_simp⟩) ?_
      try simp only [List.getElem_toArray, List.getElem_cons_succ, List.getElem_cons_zero, Act.put, List.setIfInBounds_toArray, List.set_cons_zero, List.set_cons_succ]
      refine anyT_takeY (i := 5) (v := .pointer (some ⟨ab, ao + k * 34, none⟩)) rfl (by kernel_rfl) (by kernel_rfl) (by kernel_rfl) (fun _ _ _ h => h) (by kernel_rfl) (Or.inl ⟨by rfl, by intro w; go_simp⟩) ?_
      try simp only [List.getElem_toArray, List.getElem_cons_succ, List.getElem_cons_zero, Act.put, List.setIfInBounds_toArray, List.set_cons_zero, List.set_cons_succ]
      refine anyT_take [7, 14, 21, 22] (i := 6) (v := .bool s.sec) rfl (by kernel_rfl) (by kernel_rfl) (by kernel_rfl) (fun _ _ _ h => h) (by kernel_rfl) (Or.inl ⟨by rfl, fun w' hS => by have c := hS.2.1; go_simp⟩) (HSTP.out _ HB.out) ?_
      try simp only [List.getElem_toArray, List.getElem_cons_succ, List.getElem_cons_zero, Act.put, List.setIfInBounds_toArray, List.set_cons_zero, List.set_cons_succ]
      refine anyT_take [11, 12, 13, 14, 21, 22] (i := 9) (v := .slice (some ⟨ab, ao, none⟩) n c) rfl (by kernel_rfl) (by kernel_rfl) (by kernel_rfl) (fun _ _ _ h => h) (by kernel_rfl) (Or.inl ⟨by rfl, fun w' hS => by have c := hS.1; go_simp⟩) (HSTP.out _ HB.out) ?_
      try simp only [List.getElem_toArray, List.getElem_cons_succ, List.getElem_cons_zero, Act.put, List.setIfInBounds_toArray, List.set_cons_zero, List.set_cons_succ]
      refine anyT_take [12, 13, 14, 21, 22] (i := 11) (v := .pointer (some ⟨ab, ao + k * 34, none⟩)) rfl (by kernel_rfl) (by kernel_rfl) (by kernel_rfl) (fun _ _ _ h => h) (by kernel_rfl) (Or.inl ⟨by rfl, fun w' _ => by go_simp⟩) (HSTP.out _ HB.out) ?_
      try simp only [List.getElem_toArray, List.getElem_cons_succ, List.getElem_cons_zero, Act.put, List.setIfInBounds_toArray, List.set_cons_zero, List.set_cons_succ]
      refine anyT_take [13, 14, 21, 22] (i := 12) (v := .pointer (some ⟨ab, ao + k * 34 + 1, none⟩)) rfl (by kernel_rfl) (by kernel_rfl) (by kernel_rfl) (fun _ _ _ h => h) (by kernel_rfl) (Or.inl ⟨by rfl, fun w' _ => by go_simp⟩) (HSTP.out _ HB.out) ?_
      try simp only [List.getElem_toArray, List.getElem_cons_succ, List.getElem_cons_zero, Act.put, List.setIfInBounds_toArray, List.set_cons_zero, List.set_cons_succ]
      refine anyT_take [14, 21, 22] (i := 13) (v := .int .i64 s.many) rfl (by kernel_rfl) (by kernel_rfl) (by kernel_rfl) (fun _ _ _ h => h) (by kernel_rfl) (Or.inl ⟨by rfl, fun w' hS => by have c := hS.2.2.1; go_simp⟩) (HSTP.out _ HB.out) ?_
      try simp only [List.getElem_toArray, List.getElem_cons_succ, List.getElem_cons_zero, Act.put, List.setIfInBounds_toArray, List.set_cons_zero, List.set_cons_succ]
      refine anyT_take [18, 19, 20, 21, 22] (i := 16) (v := .slice (some ⟨ab, ao, none⟩) n c) rfl (by kernel_rfl) (by kernel_rfl) (by kernel_rfl) (fun _ _ _ h => h) (by kernel_rfl) (Or.inl ⟨by rfl, fun w' hS => by have c := hS.1; go_simp⟩) (HSTP.out _ HB.out) ?_
      try simp only [List.getElem_toArray, List.getElem_cons_succ, List.getElem_cons_zero, Act.put, List.setIfInBounds_toArray, List.set_cons_zero, List.set_cons_succ]
      refine anyT_take [19, 20, 21, 22] (i := 18) (v := .pointer (some ⟨ab, ao + k * 34, none⟩)) rfl (by kernel_rfl) (by kernel_rfl) (by kernel_rfl) (fun _ _ _ h => h) (by kernel_rfl) (Or.inl ⟨by rfl, fun w' _ => by go_simp⟩) (HSTP.out _ HB.out) ?_
      try simp only [List.getElem_toArray, List.getElem_cons_succ, List.getElem_cons_zero, Act.put, List.setIfInBounds_toArray, List.set_cons_zero, List.set_cons_succ]
      refine anyT_take [20, 21, 22] (i := 19) (v := .pointer (some ⟨ab, ao + k * 34 + 2, none⟩)) rfl (by kernel_rfl) (by kernel_rfl) (by kernel_rfl) (fun _ _ _ h => h) (by kernel_rfl) (Or.inl ⟨by rfl, fun w' _ => by go_simp⟩) (HSTP.out _ HB.out) ?_
      try simp only [List.getElem_toArray, List.getElem_cons_succ, List.getElem_cons_zero, Act.put, List.setIfInBounds_toArray, List.set_cons_zero, List.set_cons_succ]
      refine anyT_take [21, 22] (i := 20) (v := .agg (rowOf .u8 32 s.oth)) rfl (by kernel_rfl) (by kernel_rfl) (by kernel_rfl) (fun _ _ _ h => h) (by kernel_rfl) (row_yields_mid (by rfl) 62 (.tmp 42) rfl ab (ao + k * 34 + 2) rfl .u8 32 _ _ (fun _ h => h.2.2.2) Tryz.underlying62 rfl (by kernel_rfl)) (HSTP.out _ HB.out) ?_
      try simp only [List.getElem_toArray, List.getElem_cons_succ, List.getElem_cons_zero, Act.put, List.setIfInBounds_toArray, List.set_cons_zero, List.set_cons_succ]
      refine anyT_one (i := 7) (by kernel_rfl) rfl (fun K hK => ?_)
      rw [if_pos (by rfl)]
      try simp only [List.getElem_toArray, List.getElem_cons_succ, List.getElem_cons_zero]
      (go_simp; refine (dBool_any (.slice xa xn xc) XS s.sec w6 HX.out (by have := HLEN.out; omega)).mono ?_; intro e w7 hpost; obtain ⟨v7, rfl, hx, hb⟩ := refp_in hpost (by have := HLEN.out; simp only [List.length_append, truthB, List.length_cons, List.length_nil]; unfold maxLen; omega); replace HX := Lib.hid hx; replace HB := Lib.hid (HB.out.trans (hb.mono HB.out.size)); clear hx hb hpost)
      refine hK _ _ (fun _ => HSTP.out _ HB.out) ?_
      clear hK K
      try simp only [List.getElem_toArray, List.getElem_cons_succ, List.getElem_cons_zero, Act.put, List.setIfInBounds_toArray, List.set_cons_zero, List.set_cons_succ]
      refine anyT_one (i := 14) (by kernel_rfl) rfl (fun K hK => ?_)
      rw [if_pos (by rfl)]
      try simp only [List.getElem_toArray, List.getElem_cons_succ, List.getElem_cons_zero]
      (go_simp; refine (dInt_any v7 _ s.many w7 HX.out HSB.out.1 HSB.out.2 (by have := HLEN.out; simp only [List.length_append, truthB, List.length_cons, List.length_nil]; omega)).mono ?_; intro e w8 hpost; obtain ⟨v8, rfl, hx, hb⟩ := refp_in hpost (by have := HLEN.out; have := glen_10 (zig_lt HSB.out.1 HSB.out.2); simp only [List.length_append, truthB, List.length_cons, List.length_nil]; unfold maxLen; omega); replace HX := Lib.hid hx; replace HB := Lib.hid (HB.out.trans (hb.mono HB.out.size)); clear hx hb hpost)
      refine hK _ _ (fun _ => HSTP.out _ HB.out) ?_
      clear hK K
      try simp only [List.getElem_toArray, List.getElem_cons_succ, List.getElem_cons_zero, Act.put, List.setIfInBounds_toArray, List.set_cons_zero, List.set_cons_succ]
      refine anyT_one (i := 21) (by kernel_rfl) rfl (fun K hK => ?_)
      rw [if_pos (by rfl)]
      try simp only [List.getElem_toArray, List.getElem_cons_succ, List.getElem_cons_zero]
      (go_simp; refine (dHash_any v8 _ s.oth w8 HX.out (by have := HLEN.out; have := glen_10 (zig_lt HSB.out.1 HSB.out.2); simp only [List.length_append, truthB, List.length_cons, List.length_nil]; omega)).mono ?_; intro e w9 hpost; obtain ⟨v9, rfl, hx, hb⟩ := refp_in hpost (by have := HLEN.out; have := glen_10 (zig_lt HSB.out.1 HSB.out.2); have : (rowL 32 s.oth).length = 32 := (by simp [rowL]); simp only [List.length_append, truthB, List.length_cons, List.length_nil]; unfold maxLen; omega); replace HX := Lib.hid hx; replace HB := Lib.hid (HB.out.trans (hb.mono HB.out.size)); clear hx hb hpost)
      refine hK _ _ (not_mem rfl) ?_
      clear hK K
      try simp only [List.getElem_toArray, List.getElem_cons_succ, List.getElem_cons_zero, Act.put, List.setIfInBounds_toArray, List.set_cons_zero, List.set_cons_succ]
      refine anyT_takeY (i := 22) (v := v9) rfl (by kernel_rfl) (by kernel_rfl) (by kernel_rfl) (fun _ _ _ h => h) (by kernel_rfl) (Or.inl ⟨by rfl, by intro w; go_simp⟩) ?_
      try simp only [List.getElem_toArray, List.getElem_cons_succ, List.getElem_cons_zero, Act.put, List.setIfInBounds_toArray, List.set_cons_zero, List.set_cons_succ]
      refine anyT_done (by kernel_rfl) ?_ _
      go_wp2_with (fail)
      go_roundw
      case rel => exact ⟨k + 1, by omega, by go_num, Lib.hid ⟨by have := HX.out; rw [HSS.out, ← List.append_assoc, ← HXS.out]; simpa [stL, List.append_assoc] using this, HB.out⟩⟩
      case measure => simp [intOf]; omega
    · obtain rfl : k = n := by omega
      have HX2 := Lib.hid (show BytesIn wr (.slice xa xn xc) (encL p) by rw [HEN2.out]; have := HX.out; rw [← HSL.out, List.take_length] at this; exact this)
      go_wp2_with (fail)
      go_ret
      exact ⟨_, rfl, HX2.out, HB1.out.trans (HB.out.mono HB1.out.size)⟩
end Go.Proofs.YtabflppnecemkaaGreatDoor

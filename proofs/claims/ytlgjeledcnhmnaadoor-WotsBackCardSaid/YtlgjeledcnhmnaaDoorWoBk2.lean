/- WotsBack: the walk. -/
import Derived.Test.YtlgjeledcnhmnaaDoorWoBk
import Derived.Laws.StructEq
namespace Go.Proofs.YtlgjeledcnhmnaaDoor
open Go.RowKit
set_option maxRecDepth 100000
theorem gtB_snoc {A B : List Nat} (h : A.length = B.length) (k a b : Nat) (ha : A[k]? = some a) (hb : B[k]? = some b) : gtB (A.take (k + 1)) (B.take (k + 1)) = (gtB (A.take k) (B.take k) || decide (b < a)) := by
  rw [List.take_add_one, List.take_add_one, ha, hb, Option.toList_some, Option.toList_some, gtB_append _ _ (by rw [List.length_take, List.length_take, h])]
  simp [gtB]
theorem str_ne {xs ys : List Int} (hx : bytesOk xs) (hy : bytesOk ys) (h : ys ≠ xs) : strOfNums ys ≠ strOfNums xs := fun e => h (by rw [← numsOf_str ys hy, ← numsOf_str xs hx, e])
theorem str_neB {a b : ByteArray} (h : a ≠ b) : (a.toList == b.toList) = false := by
  rw [Bool.eq_false_iff]
  intro e
  have e1 := eq_of_beq e
  rw [ByteArray.toList_eq, ByteArray.toList_eq] at e1
  exact h (Go.WideShapes.bytes_inj e1)
/-- two slices of digits, and all else -/
structure DigsM (w w' : World) (b1 o1 b2 o2 : Nat) (A B : List Nat) : Prop where
  ca : ∀ i x, (natInts A)[i]? = some x → w'.cell? ⟨b1, o1 + i, none⟩ = some (.int .i64 x)
  cb : ∀ i x, (natInts B)[i]? = some x → w'.cell? ⟨b2, o2 + i, none⟩ = some (.int .i64 x)
  env : Env w'
  below : Below w.heap.size w w'
theorem DigsM.drew {w w' : World} {b1 o1 b2 o2 : Nat} {A B : List Nat} (m : DigsM w w' b1 o1 b2 o2 A B) (n : Nat) : DigsM w (w'.drewN n) b1 o1 b2 o2 A B :=
  ⟨m.ca, m.cb, m.env.below (B := w'.heap.size) ⟨rfl, rfl, rfl, Nat.le_refl _, fun _ _ => rfl⟩ m.env.lt, ⟨m.below.os, m.below.tape, m.below.output, m.below.size, m.below.block⟩⟩
structure Back5 (w w' : World) (F : Nat → Int) (leaf : Int) (v : Value) (xs : List Int) (vo : Value) (ys : List Int) (vs : Value) (ss : List Int) (g7 : Nat) (P : Nat → Int) : Prop where
  m : BackM w w' F leaf v xs vo ys
  s : BytesIn w' vs ss
  r : RowAt w' g7 .u8 32 23 P
theorem Back5.call {w w' w2 : World} {F : Nat → Int} {leaf : Int} {v vo vs : Value} {xs ys ss : List Int} {g7 : Nat} {P : Nat → Int} (m : Back5 w w' F leaf v xs vo ys vs ss g7 P) (h : Below w'.heap.size w' w2) : Back5 w w2 F leaf v xs vo ys vs ss g7 P :=
  ⟨m.m.call h, m.s.below h, m.r.below h m.r.lt⟩
theorem Back5.lts {w w' : World} {F : Nat → Int} {leaf : Int} {v vo vs : Value} {xs ys ss : List Int} {g7 : Nat} {P : Nat → Int} (m : Back5 w w' F leaf v xs vo ys vs ss g7 P) : g7 < w'.heap.size ∧ w.heap.size < w'.heap.size :=
  ⟨m.r.lt, (Array.getElem?_eq_some_iff.1 m.m.hc).1⟩
set_option maxHeartbeats 8000000 in
theorem back_ok (F : Nat → Int) (leaf : Int) (v vo : Value) (xs ys : List Int) (w : World) (he : Env w) (hx : BytesIn w v xs) (hy : BytesIn w vo ys) (hbx : bytesOk xs) (hby : bytesOk ys) (h : 0 ≤ leaf ∧ leaf < 1024) (hn : 1 ≤ xs.length ∧ xs.length ≤ 32) (hly : ys.length ≤ 140737488355328) :
    Calls Tryd.prog 5 #[.agg (caseC F leaf v), vo] w fun e w' => e = .returned (.bool true) ∧ Below w.heap.size w w' := by
  have M := Lib.hid (back_start (F := F) (leaf := leaf) he hx hy)
  have HXB := Lib.hid hbx
  have HYB := Lib.hid hby
  have HLY := Lib.hid hly
  have hl := Lib.hid h
  have HXN := Lib.hid hn
  obtain ⟨a, cap, rfl, -, -, -⟩ := hx
  obtain ⟨ao, capo, rfl, -, -, -⟩ := hy
  obtain ⟨n, hnn⟩ : ∃ n, n = xs.length := ⟨_, rfl⟩
  obtain ⟨no, hno⟩ : ∃ no, no = ys.length := ⟨_, rfl⟩
  rw [← hnn] at M hn ⊢
  rw [← hno] at M ⊢
  have HN := Lib.hid hn
  have hnb := hn.2
  have hn1 := hn.1
  replace hnn := Lib.hid hnn
  replace hno := Lib.hid hno
  obtain ⟨P, hP⟩ : ∃ P, P = pubF F leaf n := ⟨_, rfl⟩
  have HPE := Lib.hid (show fromF (signF F leaf xs) leaf xs = P by rw [hP, hnn.out]; exact from_sign F leaf xs hbx HXN.out.2)
  have HSL := Lib.hid (show (signF F leaf xs).length = 32 * (2 * n + 3) by rw [signF, chainsF_length, digF_length, hnn.out])
  replace hP := Lib.hid hP
  clear he hbx hby hly h hn
  go_enter Tryd.func5, Tryd.ntmps5
  go_upto_region 1 with (fail)
  generalize w.alloc (.cells (caseC F leaf (.slice a n cap)) 26) = w1 at *
  refine wp_region_T (fun w' => BackM w w' F leaf (.slice a n cap) xs (.slice ao no capo) ys) [1, 3, 5, 6, 7] (by kernel_rfl) ?_
  replace M := Lib.hid (M.out.call (Below.refl _ _).drew)
  generalize w1.drew = w2 at *
  refine anyT_takeY (i := 0) (v := .pointer (some ⟨w.heap.size, 0, none⟩)) rfl (by kernel_rfl) (by kernel_rfl) (by kernel_rfl) (fun _ _ _ h => h) (by kernel_rfl) (Or.inl ⟨by rfl, by intro w; go_simp⟩) ?_
  try simp only [List.getElem_toArray, List.getElem_cons_succ, List.getElem_cons_zero, Act.put, List.setIfInBounds_toArray, List.set_cons_zero, List.set_cons_succ]
  refine anyT_takeY (i := 2) (v := .pointer (some ⟨w.heap.size, 32, none⟩)) rfl (by kernel_rfl) (by kernel_rfl) (by kernel_rfl) (fun _ _ _ h => h) (by kernel_rfl) (Or.inl ⟨by rfl, by intro w; go_simp⟩) ?_
  try simp only [List.getElem_toArray, List.getElem_cons_succ, List.getElem_cons_zero, Act.put, List.setIfInBounds_toArray, List.set_cons_zero, List.set_cons_succ]
  refine anyT_takeY (i := 4) (v := .pointer (some ⟨w.heap.size, 33, none⟩)) rfl (by kernel_rfl) (by kernel_rfl) (by kernel_rfl) (fun _ _ _ h => h) (by kernel_rfl) (Or.inl ⟨by rfl, by intro w; go_simp⟩) ?_
  try simp only [List.getElem_toArray, List.getElem_cons_succ, List.getElem_cons_zero, Act.put, List.setIfInBounds_toArray, List.set_cons_zero, List.set_cons_succ]
  refine anyT_take [7, 8, 9, 10, 11, 12] (i := 1) (v := .agg (rowOf .u8 32 F)) rfl (by kernel_rfl) (by kernel_rfl) (by kernel_rfl) (fun _ _ _ h => h) (by kernel_rfl) (row_yields_mid (by rfl) 23 (.tmp 17) rfl w.heap.size 0 rfl .u8 32 F _ (fun _ h => h.seed) Tryd.underlying23 rfl (by kernel_rfl)) M.out ?_
  try simp only [List.getElem_toArray, List.getElem_cons_succ, List.getElem_cons_zero, Act.put, List.setIfInBounds_toArray, List.set_cons_zero, List.set_cons_succ]
  refine anyT_take [7, 8, 9, 10, 11, 12] (i := 3) (v := .int .i64 leaf) rfl (by kernel_rfl) (by kernel_rfl) (by kernel_rfl) (fun _ _ _ h => h) (by kernel_rfl) (Or.inl ⟨by rfl, fun w' hS => by have c1 := hS.leafc; go_simp⟩) M.out ?_
  try simp only [List.getElem_toArray, List.getElem_cons_succ, List.getElem_cons_zero, Act.put, List.setIfInBounds_toArray, List.set_cons_zero, List.set_cons_succ]
  refine anyT_take [6, 7, 8, 9, 10, 11, 12] (i := 5) (v := .slice a n cap) rfl (by kernel_rfl) (by kernel_rfl) (by kernel_rfl) (fun _ _ _ h => h) (by kernel_rfl) (Or.inl ⟨by rfl, fun w' hS => by have c1 := hS.digc; go_simp⟩) M.out ?_
  try simp only [List.getElem_toArray, List.getElem_cons_succ, List.getElem_cons_zero, Act.put, List.setIfInBounds_toArray, List.set_cons_zero, List.set_cons_succ]
  refine anyT_one (i := 6) (by kernel_rfl) rfl (fun K hK => ?_)
  rw [if_pos (by rfl)]
  try simp only [List.getElem_toArray, List.getElem_cons_succ, List.getElem_cons_zero]
  (go_simp; refine (twin_any _ xs _ M.out.xin (by have := HXN.out; omega)).mono ?_; rintro e w3 ⟨vt, rfl, ho, hb⟩; have HT := Lib.hid (owns_in ho (by have := HXN.out; unfold maxLen; omega)); replace M := Lib.hid (M.out.call hb); clear ho hb)
  refine hK _ _ (fun _ => M.out) ?_
  clear hK K
  try simp only [List.getElem_toArray, List.getElem_cons_succ, List.getElem_cons_zero, Act.put, List.setIfInBounds_toArray, List.set_cons_zero, List.set_cons_succ]
  refine anyT_one (i := 7) (by kernel_rfl) rfl (fun K hK => ?_)
  rw [if_pos (by rfl)]
  try simp only [List.getElem_toArray, List.getElem_cons_succ, List.getElem_cons_zero]
  (go_simp; refine (wsign_ok F leaf vt xs _ M.out.env hl.out HT.out HXB.out HXN.out).mono ?_; rintro e w4 ⟨vs, rfl, ho, hb⟩; simp only [errV]; have HS := Lib.hid (owns_in ho (by rw [HSL.out]; unfold maxLen; omega)); replace M := Lib.hid (M.out.call hb); clear ho hb HT)
  refine hK _ _ (fun _ => M.out) ?_
  clear hK K
  try simp only [List.getElem_toArray, List.getElem_cons_succ, List.getElem_cons_zero, Act.put, List.setIfInBounds_toArray, List.set_cons_zero, List.set_cons_succ]
  refine anyT_takeY (i := 8) (v := .tuple #[vs, .nilIface]) rfl (by kernel_rfl) (by kernel_rfl) (by kernel_rfl) (fun _ _ _ h => h) (by kernel_rfl) (Or.inl ⟨by rfl, by intro w; go_simp⟩) ?_
  try simp only [List.getElem_toArray, List.getElem_cons_succ, List.getElem_cons_zero, Act.put, List.setIfInBounds_toArray, List.set_cons_zero, List.set_cons_succ]
  refine anyT_takeY (i := 9) (v := vs) rfl (by kernel_rfl) (by kernel_rfl) (by kernel_rfl) (fun _ _ _ h => h) (by kernel_rfl) (Or.inl ⟨by rfl, by intro w; go_simp⟩) ?_
  try simp only [List.getElem_toArray, List.getElem_cons_succ, List.getElem_cons_zero, Act.put, List.setIfInBounds_toArray, List.set_cons_zero, List.set_cons_succ]
  refine anyT_takeY (i := 11) (v := vs) rfl (by kernel_rfl) (by kernel_rfl) (by kernel_rfl) (fun _ _ _ h => h) (by kernel_rfl) (Or.inl ⟨by rfl, by intro w; go_simp⟩) ?_
  try simp only [List.getElem_toArray, List.getElem_cons_succ, List.getElem_cons_zero, Act.put, List.setIfInBounds_toArray, List.set_cons_zero, List.set_cons_succ]
  refine anyT_takeY (i := 10) (v := .nilIface) rfl (by kernel_rfl) (by kernel_rfl) (by kernel_rfl) (fun _ _ _ h => h) (by kernel_rfl) (Or.inl ⟨by rfl, by intro w; go_simp⟩) ?_
  try simp only [List.getElem_toArray, List.getElem_cons_succ, List.getElem_cons_zero, Act.put, List.setIfInBounds_toArray, List.set_cons_zero, List.set_cons_succ]
  refine anyT_takeY (i := 12) (v := .nilIface) rfl (by kernel_rfl) (by kernel_rfl) (by kernel_rfl) (fun _ _ _ h => h) (by kernel_rfl) (Or.inl ⟨by rfl, by intro w; go_simp⟩) ?_
  try simp only [List.getElem_toArray, List.getElem_cons_succ, List.getElem_cons_zero, Act.put, List.setIfInBounds_toArray, List.set_cons_zero, List.set_cons_succ]
  refine anyT_done (by kernel_rfl) ?_ _
  obtain ⟨sa, sc, hvs, -⟩ := HS.out
  subst hvs
  rw [HSL.out] at HS ⊢
  obtain ⟨ns, hns⟩ : ∃ ns, ns = 32 * (2 * n + 3) := ⟨_, rfl⟩
  rw [← hns] at HS ⊢
  have HNS := Lib.hid hns
  clear hns
  have c1 := M.out.leafc
  have c2 := M.out.digc
  go_upto_region 5 with (first
    | (refine wpList_load_rowmid rfl 23 (.tmp 28) rfl w.heap.size 0 rfl .u8 32 F _ M.out.seed Tryd.underlying23 rfl (by kernel_rfl) ?_)
    | (go_at_call 11; (with_reducible refine (wpublic_ok F leaf n _ M.out.env hl.out HN.out).mono ?_); rintro e w5 ⟨rfl, hb⟩; simp only [okV, errV, ← hP.out]; replace HS := Lib.hid (HS.out.below hb); replace M := Lib.hid (M.out.call hb); clear hb)
    | (refine wpList_store_row rfl 23 (.tmp 7) (.tmp 36) rfl w5.heap.size (rowOf .u8 32 P) rfl rfl 23 _ (heap_alloc_new _ _) (by rw [rowOf_size]; kernel_rfl) rfl (rowOf_one _ _ _) ?_; rw [World.setRow_alloc_new]; have R7 := Lib.hid (RowAt.new w5 .u8 32 23 P); replace HS := Lib.hid (HS.out.below (below_alloc w5 (.cells (rowOf .u8 32 P) 23))); replace M := Lib.hid (M.out.call (below_alloc w5 (.cells (rowOf .u8 32 P) 23))); generalize w5.heap.size = g7 at *; generalize w5.alloc (.cells (rowOf .u8 32 P) 23) = w6 at *))
  clear c1 c2
  go_cut [9, 10] (fun p9 e10 wx => ∃ g9, p9 = .pointer (some ⟨g9, 0, none⟩) ∧ e10 = .nilIface ∧ Hid (BackM w wx F leaf (.slice a n cap) xs (.slice ao no capo) ys) ∧ Hid (RowAt wx g7 .u8 32 23 P) ∧ Hid (RowAt wx g9 .u8 32 23 P))
  case first =>
    have HS6 := Lib.hid (show Back5 w w6 F leaf (.slice a n cap) xs (.slice ao no capo) ys (.slice sa ns sc) (signF F leaf xs) g7 P from ⟨M.out, HS.out, R7.out⟩)
    refine wp_region_T (fun w' => Back5 w w' F leaf (.slice a n cap) xs (.slice ao no capo) ys (.slice sa ns sc) (signF F leaf xs) g7 P) [2, 4, 5, 6, 10] (by kernel_rfl) ?_
    have M5 := Lib.hid (HS6.out.call (Below.refl _ _).drew)
    clear HS6 M HS R7
    generalize w6.drew = w7 at *
    have M7 := M5
    have HBW := Lib.hid (Below.refl w7.heap.size w7)
    refine anyT_takeY (i := 0) (v := .slice sa ns sc) rfl (by kernel_rfl) (by kernel_rfl) (by kernel_rfl) (fun _ _ _ h => h) (by kernel_rfl) (Or.inl ⟨by rfl, by intro w; go_simp⟩) ?_
    try simp only [List.getElem_toArray, List.getElem_cons_succ, List.getElem_cons_zero, Act.put, List.setIfInBounds_toArray, List.set_cons_zero, List.set_cons_succ]
    refine anyT_takeY (i := 1) (v := .pointer (some ⟨w.heap.size, 32, none⟩)) rfl (by kernel_rfl) (by kernel_rfl) (by kernel_rfl) (fun _ _ _ h => h) (by kernel_rfl) (Or.inl ⟨by rfl, by intro w; go_simp⟩) ?_
    try simp only [List.getElem_toArray, List.getElem_cons_succ, List.getElem_cons_zero, Act.put, List.setIfInBounds_toArray, List.set_cons_zero, List.set_cons_succ]
    refine anyT_takeY (i := 3) (v := .pointer (some ⟨w.heap.size, 33, none⟩)) rfl (by kernel_rfl) (by kernel_rfl) (by kernel_rfl) (fun _ _ _ h => h) (by kernel_rfl) (Or.inl ⟨by rfl, by intro w; go_simp⟩) ?_
    try simp only [List.getElem_toArray, List.getElem_cons_succ, List.getElem_cons_zero, Act.put, List.setIfInBounds_toArray, List.set_cons_zero, List.set_cons_succ]
    refine anyT_take [6, 7, 8, 9, 11, 12] (i := 2) (v := .int .i64 leaf) rfl (by kernel_rfl) (by kernel_rfl) (by kernel_rfl) (fun _ _ _ h => h) (by kernel_rfl) (Or.inl ⟨by rfl, fun w' hS => by have c1 := hS.m.leafc; go_simp⟩) M5.out ?_
    try simp only [List.getElem_toArray, List.getElem_cons_succ, List.getElem_cons_zero, Act.put, List.setIfInBounds_toArray, List.set_cons_zero, List.set_cons_succ]
    refine anyT_take [5, 6, 7, 8, 9, 11, 12] (i := 4) (v := .slice a n cap) rfl (by kernel_rfl) (by kernel_rfl) (by kernel_rfl) (fun _ _ _ h => h) (by kernel_rfl) (Or.inl ⟨by rfl, fun w' hS => by have c1 := hS.m.digc; go_simp⟩) M5.out ?_
    try simp only [List.getElem_toArray, List.getElem_cons_succ, List.getElem_cons_zero, Act.put, List.setIfInBounds_toArray, List.set_cons_zero, List.set_cons_succ]
    refine anyT_ready (rs := [5, 10]) (by kernel_rfl) (by simp) ?_
    refine readyT_cons rfl (fun K hK => ?_) (readyT_cons rfl (fun K hK => ?_) readyT_nil)
    · rw [if_pos (by rfl)]
      try simp only [List.getElem_toArray, List.getElem_cons_succ, List.getElem_cons_zero]
      (go_simp; refine (twin_any _ xs _ M5.out.m.xin (by have := HXN.out; omega)).mono ?_; rintro e w8 ⟨vt, rfl, ho, hb⟩; have HT := Lib.hid (owns_in ho (by have := HXN.out; unfold maxLen; omega)); replace HBW := Lib.hid (HBW.out.trans (hb.mono HBW.out.size)); replace M5 := Lib.hid (M5.out.call hb); clear ho hb)
      refine hK _ _ (fun _ => M5.out) ?_
      clear hK K
      try simp only [List.getElem_toArray, List.getElem_cons_succ, List.getElem_cons_zero, Act.put, List.setIfInBounds_toArray, List.set_cons_zero, List.set_cons_succ]
      refine anyT_ready (rs := [6, 10]) (by kernel_rfl) (by simp) ?_
      refine readyT_cons rfl (fun K hK => ?_) (readyT_cons rfl (fun K hK => ?_) readyT_nil)
      · rw [if_pos (by rfl)]
        try simp only [List.getElem_toArray, List.getElem_cons_succ, List.getElem_cons_zero]
        (go_simp; refine (wfrom_ok _ (signF F leaf xs) leaf vt xs _ M5.out.m.env hl.out M5.out.s HT.out HXB.out HXN.out (by rw [HSL.out, hnn.out])).mono ?_; rintro e w9 ⟨rfl, hb⟩; rw [HPE.out]; simp only [okV, errV]; replace HBW := Lib.hid (HBW.out.trans (hb.mono HBW.out.size)); replace M5 := Lib.hid (M5.out.call hb); clear hb)
        refine hK _ _ (fun _ => M5.out) ?_
        clear hK K
        try simp only [List.getElem_toArray, List.getElem_cons_succ, List.getElem_cons_zero, Act.put, List.setIfInBounds_toArray, List.set_cons_zero, List.set_cons_succ]
        refine anyT_takeY (i := 7) (v := .tuple #[.agg (rowOf .u8 32 P), .nilIface]) rfl (by kernel_rfl) (by kernel_rfl) (by kernel_rfl) (fun _ _ _ h => h) (by kernel_rfl) (Or.inl ⟨by rfl, by intro w; go_simp⟩) ?_
        try simp only [List.getElem_toArray, List.getElem_cons_succ, List.getElem_cons_zero, Act.put, List.setIfInBounds_toArray, List.set_cons_zero, List.set_cons_succ]
        refine anyT_takeY (i := 8) (v := .agg (rowOf .u8 32 P)) rfl (by kernel_rfl) (by kernel_rfl) (by kernel_rfl) (fun _ _ _ h => h) (by kernel_rfl) (Or.inl ⟨by rfl, by intro w; go_simp⟩) ?_
        try simp only [List.getElem_toArray, List.getElem_cons_succ, List.getElem_cons_zero, Act.put, List.setIfInBounds_toArray, List.set_cons_zero, List.set_cons_succ]
        refine anyT_takeY (i := 9) (v := .nilIface) rfl (by kernel_rfl) (by kernel_rfl) (by kernel_rfl) (fun _ _ _ h => h) (by kernel_rfl) (Or.inl ⟨by rfl, by intro w; go_simp⟩) ?_
        try simp only [List.getElem_toArray, List.getElem_cons_succ, List.getElem_cons_zero, Act.put, List.setIfInBounds_toArray, List.set_cons_zero, List.set_cons_succ]
        refine anyT_one (i := 10) (by kernel_rfl) rfl (fun K hK => ?_)
        rw [if_pos (by rfl)]
        try simp only [List.getElem_toArray, List.getElem_cons_succ, List.getElem_cons_zero]
        (go_simp; have R9 := Lib.hid (RowAt.new w9 .u8 32 23 zF); have HS9 := Lib.hid HBW.out.size; replace HBW := Lib.hid (HBW.out.trans ((below_alloc w9 (.cells (rowOf .u8 32 zF) 23)).mono HBW.out.size)); replace M5 := Lib.hid (M5.out.call (below_alloc w9 (.cells (rowOf .u8 32 zF) 23))))
        refine hK _ _ (fun _ => M5.out) ?_
        clear hK K
        try simp only [List.getElem_toArray, List.getElem_cons_succ, List.getElem_cons_zero, Act.put, List.setIfInBounds_toArray, List.set_cons_zero, List.set_cons_succ]
        rw [zeros32']
        obtain ⟨g9, hg9⟩ : ∃ g9, g9 = w9.heap.size := ⟨_, rfl⟩
        have HG9 := Lib.hid (show w7.heap.size ≤ g9 by rw [hg9]; exact HS9.out)
        rw [← hg9] at R9 ⊢
        generalize w9.alloc (.cells (rowOf .u8 32 zF) 23) = w10 at *
        clear hg9
        refine anyT_one (i := 11) (by kernel_rfl) rfl (fun K hK => ?_)
        rw [if_pos (by rfl)]
        try simp only [List.getElem_toArray, List.getElem_cons_succ, List.getElem_cons_zero]
        (refine wp_store_row 23 (.tmp 9) (.tmp 71) rfl g9 (rowOf .u8 32 P) rfl rfl 23 _ R9.out (by rw [rowOf_size]; kernel_rfl) (by rw [rowOf_size, rowOf_size]) (rowOf_one _ _ _) ?_)
        refine hK _ _ (not_mem rfl) ?_
        clear hK K
        try simp only [List.getElem_toArray, List.getElem_cons_succ, List.getElem_cons_zero, Act.put, List.setIfInBounds_toArray, List.set_cons_zero, List.set_cons_succ]
        refine anyT_takeY (i := 12) (v := .nilIface) rfl (by kernel_rfl) (by kernel_rfl) (by kernel_rfl) (fun _ _ _ h => h) (by kernel_rfl) (Or.inl ⟨by rfl, by intro w; go_simp⟩) ?_
        try simp only [List.getElem_toArray, List.getElem_cons_succ, List.getElem_cons_zero, Act.put, List.setIfInBounds_toArray, List.set_cons_zero, List.set_cons_succ]
        refine anyT_done (by kernel_rfl) ?_ _
        go_wp2_with (fail)
        go_meet
        have MF := M7.out.call (below_setRow HBW.out HG9.out (rowOf .u8 32 P))
        exact ⟨g9, rfl, rfl, Lib.hid MF.m, Lib.hid MF.r, Lib.hid (setRow_heap _ _ _ _ _ _ R9.out)⟩
      · rw [if_pos (by rfl)]
        try simp only [List.getElem_toArray, List.getElem_cons_succ, List.getElem_cons_zero]
        (go_simp; have R9 := Lib.hid (RowAt.new w8 .u8 32 23 zF); have HS9 := Lib.hid HBW.out.size; replace HT := Lib.hid (HT.out.below (below_alloc w8 (.cells (rowOf .u8 32 zF) 23))); replace HBW := Lib.hid (HBW.out.trans ((below_alloc w8 (.cells (rowOf .u8 32 zF) 23)).mono HBW.out.size)); replace M5 := Lib.hid (M5.out.call (below_alloc w8 (.cells (rowOf .u8 32 zF) 23))))
        refine hK _ _ (fun _ => M5.out) ?_
        clear hK K
        try simp only [List.getElem_toArray, List.getElem_cons_succ, List.getElem_cons_zero, Act.put, List.setIfInBounds_toArray, List.set_cons_zero, List.set_cons_succ]
        rw [zeros32']
        obtain ⟨g9, hg9⟩ : ∃ g9, g9 = w8.heap.size := ⟨_, rfl⟩
        have HG9 := Lib.hid (show w7.heap.size ≤ g9 by rw [hg9]; exact HS9.out)
        rw [← hg9] at R9 ⊢
        generalize w8.alloc (.cells (rowOf .u8 32 zF) 23) = w9 at *
        clear hg9
        refine anyT_one (i := 6) (by kernel_rfl) rfl (fun K hK => ?_)
        rw [if_pos (by rfl)]
        try simp only [List.getElem_toArray, List.getElem_cons_succ, List.getElem_cons_zero]
        (go_simp; refine (wfrom_ok _ (signF F leaf xs) leaf vt xs _ M5.out.m.env hl.out M5.out.s HT.out HXB.out HXN.out (by rw [HSL.out, hnn.out])).mono ?_; rintro e w10 ⟨rfl, hb⟩; rw [HPE.out]; simp only [okV, errV]; replace R9 := Lib.hid (R9.out.below hb R9.out.lt); replace HBW := Lib.hid (HBW.out.trans (hb.mono HBW.out.size)); replace M5 := Lib.hid (M5.out.call hb); clear hb)
        refine hK _ _ (fun _ => M5.out) ?_
        clear hK K
        try simp only [List.getElem_toArray, List.getElem_cons_succ, List.getElem_cons_zero, Act.put, List.setIfInBounds_toArray, List.set_cons_zero, List.set_cons_succ]
        refine anyT_takeY (i := 7) (v := .tuple #[.agg (rowOf .u8 32 P), .nilIface]) rfl (by kernel_rfl) (by kernel_rfl) (by kernel_rfl) (fun _ _ _ h => h) (by kernel_rfl) (Or.inl ⟨by rfl, by intro w; go_simp⟩) ?_
        try simp only [List.getElem_toArray, List.getElem_cons_succ, List.getElem_cons_zero, Act.put, List.setIfInBounds_toArray, List.set_cons_zero, List.set_cons_succ]
        refine anyT_takeY (i := 8) (v := .agg (rowOf .u8 32 P)) rfl (by kernel_rfl) (by kernel_rfl) (by kernel_rfl) (fun _ _ _ h => h) (by kernel_rfl) (Or.inl ⟨by rfl, by intro w; go_simp⟩) ?_
        try simp only [List.getElem_toArray, List.getElem_cons_succ, List.getElem_cons_zero, Act.put, List.setIfInBounds_toArray, List.set_cons_zero, List.set_cons_succ]
        refine anyT_takeY (i := 9) (v := .nilIface) rfl (by kernel_rfl) (by kernel_rfl) (by kernel_rfl) (fun _ _ _ h => h) (by kernel_rfl) (Or.inl ⟨by rfl, by intro w; go_simp⟩) ?_
        try simp only [List.getElem_toArray, List.getElem_cons_succ, List.getElem_cons_zero, Act.put, List.setIfInBounds_toArray, List.set_cons_zero, List.set_cons_succ]
        refine anyT_one (i := 11) (by kernel_rfl) rfl (fun K hK => ?_)
        rw [if_pos (by rfl)]
        try simp only [List.getElem_toArray, List.getElem_cons_succ, List.getElem_cons_zero]
        (refine wp_store_row 23 (.tmp 9) (.tmp 71) rfl g9 (rowOf .u8 32 P) rfl rfl 23 _ R9.out (by rw [rowOf_size]; kernel_rfl) (by rw [rowOf_size, rowOf_size]) (rowOf_one _ _ _) ?_)
        refine hK _ _ (not_mem rfl) ?_
        clear hK K
        try simp only [List.getElem_toArray, List.getElem_cons_succ, List.getElem_cons_zero, Act.put, List.setIfInBounds_toArray, List.set_cons_zero, List.set_cons_succ]
        refine anyT_takeY (i := 12) (v := .nilIface) rfl (by kernel_rfl) (by kernel_rfl) (by kernel_rfl) (fun _ _ _ h => h) (by kernel_rfl) (Or.inl ⟨by rfl, by intro w; go_simp⟩) ?_
        try simp only [List.getElem_toArray, List.getElem_cons_succ, List.getElem_cons_zero, Act.put, List.setIfInBounds_toArray, List.set_cons_zero, List.set_cons_succ]
        refine anyT_done (by kernel_rfl) ?_ _
        go_wp2_with (fail)
        go_meet
        have MF := M7.out.call (below_setRow HBW.out HG9.out (rowOf .u8 32 P))
        exact ⟨g9, rfl, rfl, Lib.hid MF.m, Lib.hid MF.r, Lib.hid (setRow_heap _ _ _ _ _ _ R9.out)⟩
    · rw [if_pos (by rfl)]
      try simp only [List.getElem_toArray, List.getElem_cons_succ, List.getElem_cons_zero]
      (go_simp; have R9 := Lib.hid (RowAt.new w7 .u8 32 23 zF); have HS9 := Lib.hid HBW.out.size; replace HBW := Lib.hid (HBW.out.trans ((below_alloc w7 (.cells (rowOf .u8 32 zF) 23)).mono HBW.out.size)); replace M5 := Lib.hid (M5.out.call (below_alloc w7 (.cells (rowOf .u8 32 zF) 23))))
      refine hK _ _ (fun _ => M5.out) ?_
      clear hK K
      try simp only [List.getElem_toArray, List.getElem_cons_succ, List.getElem_cons_zero, Act.put, List.setIfInBounds_toArray, List.set_cons_zero, List.set_cons_succ]
      rw [zeros32']
      obtain ⟨g9, hg9⟩ : ∃ g9, g9 = w7.heap.size := ⟨_, rfl⟩
      have HG9 := Lib.hid (show w7.heap.size ≤ g9 by rw [hg9]; exact HS9.out)
      rw [← hg9] at R9 ⊢
      generalize w7.alloc (.cells (rowOf .u8 32 zF) 23) = w8 at *
      clear hg9
      refine anyT_one (i := 5) (by kernel_rfl) rfl (fun K hK => ?_)
      rw [if_pos (by rfl)]
      try simp only [List.getElem_toArray, List.getElem_cons_succ, List.getElem_cons_zero]
      (go_simp; refine (twin_any _ xs _ M5.out.m.xin (by have := HXN.out; omega)).mono ?_; rintro e w9 ⟨vt, rfl, ho, hb⟩; have HT := Lib.hid (owns_in ho (by have := HXN.out; unfold maxLen; omega)); replace R9 := Lib.hid (R9.out.below hb R9.out.lt); replace HBW := Lib.hid (HBW.out.trans (hb.mono HBW.out.size)); replace M5 := Lib.hid (M5.out.call hb); clear ho hb)
      refine hK _ _ (fun _ => M5.out) ?_
      clear hK K
      try simp only [List.getElem_toArray, List.getElem_cons_succ, List.getElem_cons_zero, Act.put, List.setIfInBounds_toArray, List.set_cons_zero, List.set_cons_succ]
      refine anyT_one (i := 6) (by kernel_rfl) rfl (fun K hK => ?_)
      rw [if_pos (by rfl)]
      try simp only [List.getElem_toArray, List.getElem_cons_succ, List.getElem_cons_zero]
      (go_simp; refine (wfrom_ok _ (signF F leaf xs) leaf vt xs _ M5.out.m.env hl.out M5.out.s HT.out HXB.out HXN.out (by rw [HSL.out, hnn.out])).mono ?_; rintro e w10 ⟨rfl, hb⟩; rw [HPE.out]; simp only [okV, errV]; replace R9 := Lib.hid (R9.out.below hb R9.out.lt); replace HBW := Lib.hid (HBW.out.trans (hb.mono HBW.out.size)); replace M5 := Lib.hid (M5.out.call hb); clear hb)
      refine hK _ _ (fun _ => M5.out) ?_
      clear hK K
      try simp only [List.getElem_toArray, List.getElem_cons_succ, List.getElem_cons_zero, Act.put, List.setIfInBounds_toArray, List.set_cons_zero, List.set_cons_succ]
      refine anyT_takeY (i := 7) (v := .tuple #[.agg (rowOf .u8 32 P), .nilIface]) rfl (by kernel_rfl) (by kernel_rfl) (by kernel_rfl) (fun _ _ _ h => h) (by kernel_rfl) (Or.inl ⟨by rfl, by intro w; go_simp⟩) ?_
      try simp only [List.getElem_toArray, List.getElem_cons_succ, List.getElem_cons_zero, Act.put, List.setIfInBounds_toArray, List.set_cons_zero, List.set_cons_succ]
      refine anyT_takeY (i := 8) (v := .agg (rowOf .u8 32 P)) rfl (by kernel_rfl) (by kernel_rfl) (by kernel_rfl) (fun _ _ _ h => h) (by kernel_rfl) (Or.inl ⟨by rfl, by intro w; go_simp⟩) ?_
      try simp only [List.getElem_toArray, List.getElem_cons_succ, List.getElem_cons_zero, Act.put, List.setIfInBounds_toArray, List.set_cons_zero, List.set_cons_succ]
      refine anyT_takeY (i := 9) (v := .nilIface) rfl (by kernel_rfl) (by kernel_rfl) (by kernel_rfl) (fun _ _ _ h => h) (by kernel_rfl) (Or.inl ⟨by rfl, by intro w; go_simp⟩) ?_
      try simp only [List.getElem_toArray, List.getElem_cons_succ, List.getElem_cons_zero, Act.put, List.setIfInBounds_toArray, List.set_cons_zero, List.set_cons_succ]
      refine anyT_one (i := 11) (by kernel_rfl) rfl (fun K hK => ?_)
      rw [if_pos (by rfl)]
      try simp only [List.getElem_toArray, List.getElem_cons_succ, List.getElem_cons_zero]
      (refine wp_store_row 23 (.tmp 9) (.tmp 71) rfl g9 (rowOf .u8 32 P) rfl rfl 23 _ R9.out (by rw [rowOf_size]; kernel_rfl) (by rw [rowOf_size, rowOf_size]) (rowOf_one _ _ _) ?_)
      refine hK _ _ (not_mem rfl) ?_
      clear hK K
      try simp only [List.getElem_toArray, List.getElem_cons_succ, List.getElem_cons_zero, Act.put, List.setIfInBounds_toArray, List.set_cons_zero, List.set_cons_succ]
      refine anyT_takeY (i := 12) (v := .nilIface) rfl (by kernel_rfl) (by kernel_rfl) (by kernel_rfl) (fun _ _ _ h => h) (by kernel_rfl) (Or.inl ⟨by rfl, by intro w; go_simp⟩) ?_
      try simp only [List.getElem_toArray, List.getElem_cons_succ, List.getElem_cons_zero, Act.put, List.setIfInBounds_toArray, List.set_cons_zero, List.set_cons_succ]
      refine anyT_done (by kernel_rfl) ?_ _
      go_wp2_with (fail)
      go_meet
      have MF := M7.out.call (below_setRow HBW.out HG9.out (rowOf .u8 32 P))
      exact ⟨g9, rfl, rfl, Lib.hid MF.m, Lib.hid MF.r, Lib.hid (setRow_heap _ _ _ _ _ _ R9.out)⟩
  case rest =>
    obtain ⟨g9, rfl, rfl, M, R7, R9⟩ := hcut
    have c2 := M.out.digc
    have hneq := neq32_self P
    have hq1 : ((ns : Int) != 32 * (2 * (n : Int) + 3)) = false := by rw [HNS.out]; simp
    have k1 := conv_bytes wc _ ys M.out.yin
    have k2 := conv_bytes wc _ xs M.out.xin
    by_cases hne : no = n
    · have hq2 : ((no : Int) != (n : Int)) = false := by simp [hne]
      by_cases hxy : ys = xs
      · have HXY := Lib.hid hxy
        subst hxy
        have hs1 : ((strOfNums ys).toList == (strOfNums ys).toList) = true := by simp
        clear hne
        go_wp2_with (first
        | (refine wpList_load_row_want rfl 23 (.tmp 7) rfl g7 rfl .u8 32 P _ R7.out Tryd.underlying23 rfl (by kernel_rfl) ?_)
        | (refine wpList_load_row_want rfl 23 (.tmp 9) rfl g9 rfl .u8 32 P _ R9.out Tryd.underlying23 rfl (by kernel_rfl) ?_)
        | (go_at_call 19; (with_reducible refine (wlen_ok n _ HN.out.1 HN.out.2).mono ?_); rintro e w' ⟨rfl, rfl⟩)
        | (go_at_call 20; (with_reducible refine (wsure_any _ M.out.env).mono ?_); rintro e w7 ⟨rfl, hb⟩; replace M := Lib.hid (M.out.call hb); clear hb))
        go_ret
        exact ⟨rfl, M.out.below⟩
      · have hs1 : ((strOfNums ys).toList == (strOfNums xs).toList) = false := str_neB (str_ne HXB.out HYB.out hxy)
        have HXY := Lib.hid hxy
        have HNE := Lib.hid hne
        clear hxy hne
        go_upto_region 10 with (first
        | (refine wpList_load_row_want rfl 23 (.tmp 7) rfl g7 rfl .u8 32 P _ R7.out Tryd.underlying23 rfl (by kernel_rfl) ?_)
        | (refine wpList_load_row_want rfl 23 (.tmp 9) rfl g9 rfl .u8 32 P _ R9.out Tryd.underlying23 rfl (by kernel_rfl) ?_)
        | (go_at_call 19; (with_reducible refine (wlen_ok n _ HN.out.1 HN.out.2).mono ?_); rintro e w' ⟨rfl, rfl⟩))
        clear k1 k2 hq1 hq2 hs1 hneq R7 R9
        have HYN := Lib.hid (show 1 ≤ ys.length ∧ ys.length ≤ 32 by rw [← hno.out, HNE.out]; exact HN.out)
        obtain ⟨A, hA⟩ : ∃ A, A = digF xs := ⟨_, rfl⟩
        obtain ⟨B, hB⟩ : ∃ B, B = digF ys := ⟨_, rfl⟩
        have HA := Lib.hid hA
        have HB := Lib.hid hB
        have HAB := Lib.hid (show A.length = B.length by rw [hA, hB, digF_length, digF_length, ← hnn.out, ← hno.out, HNE.out])
        have HG1 := Lib.hid (show gtB A B = true by rw [hA, hB]; exact digF_gt HXB.out HYB.out (by rw [← hnn.out, ← hno.out, HNE.out]) (fun e => HXY.out e.symm))
        have HG2 := Lib.hid (show gtB B A = true by rw [hA, hB]; exact digF_gt HYB.out HXB.out (by rw [← hnn.out, ← hno.out, HNE.out]) HXY.out)
        clear hA hB
        obtain ⟨q, hq⟩ : ∃ q : Bool, q = true := ⟨_, rfl⟩
        go_wp2_with (first
          | (go_at_call 9; (with_reducible refine (twin_any _ xs _ M.out.xin (by have := HXN.out; omega)).mono ?_); rintro e w3 ⟨vt, rfl, ho, hb⟩; have HT := Lib.hid (owns_in ho (by have := HXN.out; unfold maxLen; omega)); replace M := Lib.hid (M.out.call hb); clear ho hb)
          | (go_at_call 17; (with_reducible refine (wdigits_ok _ xs _ HT.out HXB.out HXN.out.1 HXN.out.2).mono ?_); rintro e w4 ⟨vd, rfl, ho, hb⟩; rw [← HA.out] at ho; have HI1 := Lib.hid (owns_ints ho (by rw [natInts_length, HA.out, digF_length]; unfold maxLen; have := HXN.out; omega)); replace M := Lib.hid (M.out.call hb); clear ho hb HT)
          | (go_at_call 9; (with_reducible refine (twin_any _ ys _ M.out.yin (by have := HYN.out; omega)).mono ?_); rintro e w5 ⟨vt2, rfl, ho, hb⟩; have HT2 := Lib.hid (owns_in ho (by have := HYN.out; unfold maxLen; omega)); replace HI1 := Lib.hid (HI1.out.below hb); replace M := Lib.hid (M.out.call hb); clear ho hb)
          | (go_at_call 17; (with_reducible refine (wdigits_ok _ ys _ HT2.out HYB.out HYN.out.1 HYN.out.2).mono ?_); rintro e w6 ⟨vd2, rfl, ho, hb⟩; rw [← HB.out] at ho; have HI2 := Lib.hid (owns_ints ho (by rw [natInts_length, HB.out, digF_length]; unfold maxLen; have := HYN.out; omega)); replace HI1 := Lib.hid (HI1.out.below hb); replace M := Lib.hid (M.out.call hb); clear ho hb HT2))
        have hi1 := HI1.out
        have hi2 := HI2.out
        obtain ⟨a1, cc1, rfl, -, -, hcell1⟩ := hi1
        obtain ⟨a2, cc2, rfl, -, -, hcell2⟩ := hi2
        obtain ⟨N, hN⟩ : ∃ N, N = A.length := ⟨_, rfl⟩
        have HNA := Lib.hid hN
        have HNB := Lib.hid (show N = B.length by rw [hN, HAB.out])
        have HN3 := Lib.hid (show N = 2 * n + 3 by rw [hN, HA.out, digF_length, ← hnn.out])
        rw [show (natInts A).length = N by rw [natInts_length, hN], show (natInts B).length = N by rw [natInts_length, hN, HAB.out]]
        rcases hcell1 with h0 | ⟨b1, o1, rfl, hcell1⟩
        · exfalso; have h3 := natInts_length A; rw [h0] at h3; have := HN3.out; simp at h3; omega
        rcases hcell2 with h0 | ⟨b2, o2, rfl, hcell2⟩
        · exfalso; have h3 := natInts_length B; rw [h0] at h3; have := HN3.out; have := HAB.out; simp at h3; omega
        have D := Lib.hid (show DigsM w w6 b1 o1 b2 o2 A B from ⟨hcell1, hcell2, M.out.env, M.out.below⟩)
        have hN67 : N ≤ 67 := by have := HN3.out; have := HN.out; omega
        clear hcell1 hcell2 hN HI1 HI2 M hq
        go_loopw [13, 14, 15] (fun m l i wr => ∃ k : Nat, k ≤ N ∧ i = .int .i64 (k : Int) ∧ m = .bool (gtB (A.take k) (B.take k)) ∧ l = .bool (gtB (B.take k) (A.take k)) ∧ Hid (DigsM w wr b1 o1 b2 o2 A B)) (fun _ _ i _ => N - (intOf i).toNat)
        case atStart => exact ⟨0, Nat.zero_le _, rfl, by simp [gtB], by simp [gtB], D⟩
        case round =>
          clear D
          obtain ⟨k, hk, rfl, rfl, rfl, D⟩ := hrel
          by_cases hlt : k < N
          · obtain ⟨x, hx⟩ : ∃ x, A[k]? = some x := ⟨_, List.getElem?_eq_getElem (by rw [← HNA.out]; exact hlt)⟩
            obtain ⟨y, hy⟩ : ∃ y, B[k]? = some y := ⟨_, List.getElem?_eq_getElem (by rw [← HNB.out]; exact hlt)⟩
            have HS1 := Lib.hid (gtB_snoc HAB.out k x y hx hy)
            have HS2 := Lib.hid (gtB_snoc HAB.out.symm k y x hy hx)
            have e1 := D.out.ca k x (nat_get A k x hx)
            have e2 := D.out.cb k y (nat_get B k y hy)
            clear hx hy
            obtain ⟨m1, hm1⟩ : ∃ m1, m1 = gtB (A.take k) (B.take k) := ⟨_, rfl⟩
            obtain ⟨m2, hm2⟩ : ∃ m2, m2 = gtB (B.take k) (A.take k) := ⟨_, rfl⟩
            rw [← hm1] at HS1 ⊢
            rw [← hm2] at HS2 ⊢
            clear hm1 hm2
            have HT3 : Hid ((y < x ∧ ¬ x < y) ∨ (¬ y < x ∧ x < y) ∨ (¬ y < x ∧ ¬ x < y)) := Lib.hid (by omega)
            cases m1 <;> cases m2 <;> (rcases HT3.out with ⟨t1, t2⟩ | ⟨t1, t2⟩ | ⟨t1, t2⟩)
            all_goals
              go_upto_region 15 with (fail)
              go_quiet (fail)
              replace e1 : (wr.drewN nq).cell? ⟨b1, o1 + k, none⟩ = some (.int .i64 (x : Int)) := e1
              replace e2 : (wr.drewN nq).cell? ⟨b2, o2 + k, none⟩ = some (.int .i64 (y : Int)) := e2
              replace D : Hid (DigsM w (wr.drewN nq) b1 o1 b2 o2 A B) := Lib.hid (D.out.drew nq)
              generalize wr.drewN nq = wr2 at *
              go_upto_region 16 with (fail)
              go_quiet (fail)
              replace D : Hid (DigsM w (wr2.drewN nq) b1 o1 b2 o2 A B) := Lib.hid (D.out.drew nq)
              clear e1 e2
              generalize wr2.drewN nq = wr3 at *
              go_wp2_with (fail)
              go_roundw
              case rel => exact ⟨k + 1, by omega, by go_num, by rw [HS1.out]; simp [t1], by rw [HS2.out]; simp [t2], D⟩
              case measure => simp [intOf]; omega
          · have hE1 : A.take k = A := by rw [show k = A.length by rw [← HNA.out]; omega, List.take_length]
            have hE2 : B.take k = B := by rw [show k = B.length by rw [← HNB.out]; omega, List.take_length]
            rw [hE1, hE2, HG1.out, HG2.out]
            clear hE1 hE2
            go_wp2_with (go_at_call 20; (with_reducible refine (wsure_any _ D.out.env).mono ?_); rintro e w7 ⟨rfl, hb⟩; have HBL := Lib.hid (D.out.below.trans (hb.mono D.out.below.size)); clear hb)
            go_ret
            exact ⟨rfl, HBL.out⟩
    · have hq2 : ((no : Int) != (n : Int)) = true := by simp; omega
      go_wp2_with (first
        | (refine wpList_load_row_want rfl 23 (.tmp 7) rfl g7 rfl .u8 32 P _ R7.out Tryd.underlying23 rfl (by kernel_rfl) ?_)
        | (refine wpList_load_row_want rfl 23 (.tmp 9) rfl g9 rfl .u8 32 P _ R9.out Tryd.underlying23 rfl (by kernel_rfl) ?_)
        | (go_at_call 19; (with_reducible refine (wlen_ok n _ HN.out.1 HN.out.2).mono ?_); rintro e w' ⟨rfl, rfl⟩)
        | (go_at_call 20; (with_reducible refine (wsure_any _ M.out.env).mono ?_); rintro e w7 ⟨rfl, hb⟩; replace M := Lib.hid (M.out.call hb); clear hb))
      go_ret
      exact ⟨rfl, M.out.below⟩
end Go.Proofs.YtlgjeledcnhmnaaDoor

/- Part 27 of the proof. -/
import Derived.Test.YteokgklfljhcaaaGreatDoorSe3
import Derived.Test.YteokgklfljhcaaaGreatDoorSe19
import Derived.Test.YteokgklfljhcaaaGreatDoorSe24
import Derived.Test.YteokgklfljhcaaaGreatDoorSe25
import Derived.Test.YteokgklfljhcaaaGreatDoorSe26
namespace Go.Proofs.YteokgklfljhcaaaGreatDoor
set_option linter.unusedVariables false
set_option linter.unusedSimpArgs false
open Go.RowKit
set_option maxRecDepth 1000000
set_option linter.unusedSimpArgs false
set_option linter.unusedVariables false
theorem anyT_impS {P : Program} {ops : Array Oper} {Q : Exit → Act → World → Prop} {md : Region.Mode} {S S' : World → Prop} {ds : List Nat} (h : ∀ w, S' w → S w) : ∀ (f : Nat) (l : Array Bool) (a : Act) (w : World), anyT P md ops Q S' ds f l a w → anyT P md ops Q S ds f l a w
  | 0, _, _, _, k => k
  | f + 1, _, _, _, k => ⟨k.1, fun i hi => wpOp_mono (fun a' w' h' => ⟨fun hd => h _ (h'.1 hd), anyT_impS h f _ a' w' h'.2⟩) (k.2 i hi)⟩
theorem anyT_kpS {P : Program} {ops : Array Oper} {Q : Exit → Act → World → Prop} {md : Region.Mode} {X Y : World → Prop} {ds : List Nat} {w0 : World} (kx : Kept X) {f : Nat} {l : Array Bool} {a : Act} {w : World}
    (h : anyT P md ops Q (fun w' => Kp w0 w' (fun w => X w ∧ Y w)) ds f l a w) : anyT P md ops Q (fun w' => Kp w0 w' X) ds f l a w :=
  anyT_impS (fun _ k => ⟨k.below, k.x.1, kx⟩) _ _ _ _ h
theorem catL_leS {α : Type} (f : α → List Int) (m : Nat) : ∀ l : List α, (∀ t ∈ l, (f t).length ≤ m) → (catL f l).length ≤ l.length * m
  | [], _ => by simp [catL]
  | t :: l, h => by
    have h1 := h t List.mem_cons_self
    have h2 := catL_leS f m l fun u hu => h u (List.mem_cons_of_mem _ hu)
    simp only [catL, List.length_append, List.length_cons, Nat.add_mul] at *
    omega
theorem kept_bytesS (v : Value) (xs : List Int) : Kept (fun w => BytesIn w v xs) := fun _ _ h hb => h.below hb
/-- two validators' places -/
structure SxM (ab ao ab2 ao2 k : Nat) (x : Va) (w : World) : Prop where
  l1 : ab < w.heap.size
  r1 : w.rangeAt ab (ao + k * 34) (vaC x).toList
  l2 : ab2 < w.heap.size
  r2 : w.rangeAt ab2 (ao2 + k * 34) (vaC x).toList
theorem kept_sxm (ab ao ab2 ao2 k : Nat) (x : Va) : Kept (SxM ab ao ab2 ao2 k x) := fun _ _ m h =>
  ⟨Nat.lt_of_lt_of_le m.l1 h.size, rangeT_below m.r1 h m.l1, Nat.lt_of_lt_of_le m.l2 h.size, rangeT_below m.r2 h m.l2⟩
/-- what lies in memory -/
structure SwX (lv mv xv yv : Value) (l L : List Va) (w : World) : Prop where
  pl : VaIn w lv l
  pm : VaIn w mv l
  px : VaIn w xv L
  py : VaIn w yv L
  pe : Env w
theorem kept_swx (lv mv xv yv : Value) (l L : List Va) : Kept (SwX lv mv xv yv l L) := fun _ _ m h => ⟨m.pl.below h, m.pm.below h, m.px.below h, m.py.below h, m.pe.below h m.pe.lt⟩
set_option maxHeartbeats 20000000 in
theorem lsets_any (l : List Va) (lv : Value) (vb : Value) (xs : List Int) (w : World) (he : Env w) (hg : ErrType w) (hl : VaIn w lv l) (hlo : ∀ t ∈ l, -9223372036854775808 ≤ t.pow ∧ t.pow ≤ 9223372036854775807) (hlz : ∀ t ∈ l, t.name.size ≤ 1048576) (hln : l.length ≤ 1048576) (hy : BytesIn w vb xs) (hok : bytesOk xs) (hyl : xs.length ≤ 1048576) :
    Calls Tryz.prog 4 #[lv, vb] w fun e w' => e = .returned (.bool true) ∧ Below w.heap.size w w' := by
  obtain ⟨la, lc, rfl, -, -⟩ := hl.len
  have z1 : ∀ t ∈ l, (va1 t).length ≤ 1048700 := fun t m => by
    have h1 := hlz t m
    have h2 := hlo t m
    have b1 := glenT (zig_lt h2.1 h2.2)
    have b2 := glenT (n := t.name.size) (by omega)
    simp only [va1, vaL, List.length_append, rowL32, numsOf_length]; omega
  have zh : ∀ t ∈ l, (va1 t).length + 481 ≤ 140737488355328 := fun t m => by have := z1 t m; omega
  have zn : ∀ t ∈ l, t.name.size ≤ 140737488351232 := fun t m => by have := hlz t m; omega
  have lL : (listL va1 l).length + 400 ≤ 140737488355328 := by
    have a7 := glenT (n := l.length) (by omega)
    have l2 : (catL va1 l).length ≤ l.length * 1048700 := catL_leS va1 1048700 l z1
    have l4 : l.length * 1048700 ≤ 1048576 * 1048700 := Nat.mul_le_mul_right _ hln
    simp only [listL, List.length_append]; omega
  have HG := Lib.hid hg
  have HSU := Lib.hid (fun w' (h : Below w.heap.size w w') => tysure_any w' (HG.out.below h))
  obtain ⟨E, hE⟩ : ∃ x, x = dsE xs := ⟨_, rfl⟩
  obtain ⟨L, hL⟩ : ∃ x, x = dsL xs := ⟨_, rfl⟩
  obtain ⟨C, hC⟩ : ∃ x, x = ckE l := ⟨_, rfl⟩
  obtain ⟨T, hT⟩ : ∃ x, x = totV l := ⟨_, rfl⟩
  obtain ⟨RT, hRT⟩ : ∃ x, x = rootF (l.map vaF) := ⟨_, rfl⟩
  obtain ⟨SL, hSL⟩ : ∃ x, x = listL va1 l := ⟨_, rfl⟩
  have HPD := Lib.hid (show ∀ w, BytesIn w vb xs → Calls Tryz.prog 20 #[vb] w fun e w' => ∃ vv, e = .returned (.tuple #[vv, errV E]) ∧ VaIn w' vv L ∧ Below w.heap.size w w' from fun w h => by rw [hE, hL]; exact pdset_any vb xs w h hok (by omega))
  have HRD := Lib.hid (show ∀ w, BytesIn w vb xs → Calls Tryz.prog 21 #[vb] w fun e w' => ∃ vv, e = .returned (.tuple #[vv, .int .i64 (numE E)]) ∧ VaIn w' vv L ∧ Below w.heap.size w w' from fun w h => by rw [hE, hL]; exact rds_any vb xs w h hok (by omega))
  have HPC := Lib.hid (show ∀ v w, VaIn w v l → Calls Tryz.prog 22 #[v] w fun e w' => e = .returned (errV C) ∧ Below w.heap.size w w' from fun v w h => by rw [hC]; exact checkset_any l v w h zn)
  have HRC := Lib.hid (show ∀ v w, VaIn w v l → Calls Tryz.prog 23 #[v] w fun e w' => e = .returned (.int .i64 (numE C)) ∧ Below w.heap.size w w' from fun v w h => by rw [hC]; exact rckset_any l v w h zn)
  have HPT := Lib.hid (show ∀ v w, VaIn w v l → Calls Tryz.prog 24 #[v] w fun e w' => e = .returned (.int .i64 T) ∧ Below w.heap.size w w' from fun v w h => by rw [hT]; exact total_any l v w h)
  have HRT := Lib.hid (show ∀ v w, VaIn w v l → Calls Tryz.prog 25 #[v] w fun e w' => e = .returned (.int .i64 T) ∧ Below w.heap.size w w' from fun v w h => by rw [hT]; exact rtotal_any l v w h)
  have HPH := Lib.hid (show ∀ v w, Env w → VaIn w v l → Calls Tryz.prog 26 #[v] w fun e w' => e = .returned (.agg (rowOf .u8 32 RT)) ∧ Below w.heap.size w w' from fun v w h1 h => by rw [hRT]; exact pset_any l v w h1 h hlo zh hln)
  have HRH := Lib.hid (show ∀ v w, VaIn w v l → Calls Tryz.prog 27 #[v] w fun e w' => e = .returned (.agg (rowOf .u8 32 RT)) ∧ Below w.heap.size w w' from fun v w h => by rw [hRT]; exact rset_any l v w h hlo zh hln)
  have HPE := Lib.hid (show ∀ v w, VaIn w v l → Calls Tryz.prog 28 #[v] w fun e w' => ∃ vb, e = .returned vb ∧ BytesIn w' vb SL ∧ Below w.heap.size w w' from fun v w h => by rw [hSL]; exact eset_any l v w h hlo lL)
  have HRE := Lib.hid (show ∀ v w, VaIn w v l → Calls Tryz.prog 29 #[v] w fun e w' => ∃ vb, e = .returned vb ∧ BytesIn w' vb SL ∧ Below w.heap.size w w' from fun v w h => by rw [hSL]; exact rrefset_any l v w h hlo lL)
  obtain ⟨cE, hcE⟩ : ∃ c, c = numE E := ⟨_, rfl⟩
  rw [← hcE] at HRD
  have HNU := Lib.hid (fun w h => num_any E w h)
  rw [← hcE] at HNU
  obtain ⟨cC, hcC⟩ : ∃ c, c = numE C := ⟨_, rfl⟩
  rw [← hcC] at HRC
  have HNC := Lib.hid (fun w h => num_any C w h)
  rw [← hcC] at HNC
  obtain ⟨eE, heE⟩ : ∃ c, c = errV E := ⟨_, rfl⟩
  rw [← heE] at HPD HNU
  obtain ⟨eC, heC⟩ : ∃ c, c = errV C := ⟨_, rfl⟩
  rw [← heC] at HPC HNC
  obtain ⟨KB, hKB⟩ : ∃ k, k = strOfNums SL := ⟨_, rfl⟩
  have HKB := Lib.hid hKB
  have k1 : (KB.toList == KB.toList) = true := by simp
  have q1 := eq32_self RT
  have HEN := Lib.hid he
  have HLI := Lib.hid hl
  have HYI := Lib.hid hy
  have HLN := Lib.hid hln
  clear he hg hl hlo hlz hln hy hok hyl z1 zh zn lL hE hL hC hT hRT hSL hcE hcC heE heC hKB
  obtain ⟨n, hn⟩ : ∃ n, n = l.length := ⟨_, rfl⟩
  rw [← hn] at HLI
  have HN := Lib.hid hn
  rw [← hn]
  clear hn
  go_enter Tryz.func4, Tryz.ntmps4
  go_upto_region 3 with (at_builtin; refine wpList_append_vas rfl (.tmp 11) (.tmp 12) rfl rfl _ l rfl rfl HLI.out HLN.out ?_; intro mv w1 hmv hb1; have HB := Lib.hid hb1; have HMI := Lib.hid hmv; clear hmv hb1)
  go_upto_region 4 with (go_at_call 20; (with_reducible refine (HPD.out _ (HYI.out.below HB.out)).mono ?_); rintro e w2 ⟨xv, rfl, hx, hb⟩; have HXI := Lib.hid hx; replace HMI := Lib.hid (HMI.out.below hb); replace HB := Lib.hid (HB.out.trans (hb.mono HB.out.size)); clear hx hb)
  go_upto_region 5 with (go_at_call 21; (with_reducible refine (HRD.out _ (HYI.out.below HB.out)).mono ?_); rintro e w3 ⟨yv, rfl, hx, hb⟩; have HYV := Lib.hid hx; replace HXI := Lib.hid (HXI.out.below hb); replace HMI := Lib.hid (HMI.out.below hb); replace HB := Lib.hid (HB.out.trans (hb.mono HB.out.size)); clear hx hb)
  have hxe := HXI.out.len
  have hye := HYV.out.len
  have hme := HMI.out.len
  obtain ⟨xa, xc, rfl, -, hxm⟩ := hxe
  obtain ⟨ya, yc, rfl, -, -⟩ := hye
  obtain ⟨ma, mc, rfl, -, -⟩ := hme
  obtain ⟨N, hN⟩ : ∃ n, n = L.length := ⟨_, rfl⟩
  have hNI : (N : Int) ≤ 9223372036854775807 := by unfold maxLen at hxm; omega
  rw [← hN] at HXI HYV ⊢
  rw [← HN.out] at HMI ⊢
  have HNN := Lib.hid hN
  clear hN hxm
  have M := Lib.hid (show Kp w w3 (SwX (.slice la n lc) (.slice ma n mc) (.slice xa N xc) (.slice ya N yc) l L) from ⟨HB.out, ⟨HLI.out.below HB.out, HMI.out, HXI.out, HYV.out, HEN.out.below HB.out HEN.out.lt⟩, kept_swx _ _ _ _ _ _⟩)
  clear HB HMI HXI HYV HLI HYI HEN
  go_upto_region 7 with (go_at_call 6; (with_reducible refine (HNU.out _ (HG.out.below M.out.below)).mono ?_); rintro e w4 ⟨rfl, hb⟩; replace M := Lib.hid (M.out.call hb); clear hb)
  go_wp2_with (fail)
  go_loopw [10] (fun x wr => ∃ k : Nat, k ≤ N ∧ x = .int .i64 (k : Int) ∧ Hid (Kp w wr (SwX (.slice la n lc) (.slice ma n mc) (.slice xa N xc) (.slice ya N yc) l L))) (fun x _ => N - (intOf x).toNat)
  case atStart => exact ⟨0, Nat.zero_le _, rfl, M⟩
  case round =>
    clear M
    obtain ⟨k, hkn, rfl, M⟩ := hrel
    by_cases hlt : k < N
    · have hltI : (k : Int) < (N : Int) := by omega
      obtain ⟨x, hx⟩ : ∃ x, L[k]? = some x := ⟨L[k]'(by have := HNN.out; omega), List.getElem?_eq_getElem _⟩
      obtain ⟨ab, ao, rfl, hl1, hr1⟩ := M.out.x.px.at hx
      obtain ⟨ab2, ao2, rfl, hl2, hr2⟩ := M.out.x.py.at hx
      have MX := Lib.hid (show Kp w wr (SxM ab ao ab2 ao2 k x) from ⟨M.out.below, ⟨hl1, hr1, hl2, hr2⟩, kept_sxm _ _ _ _ _ _⟩)
      have MY := Lib.hid (fun w' (h : Below wr.heap.size wr w') => M.out.call h)
      obtain ⟨XC, hXC⟩ : ∃ c, c = vaC x := ⟨_, rfl⟩
      have HXS := Lib.hid ((congrArg Array.size hXC).trans (vaC_size x))
      have HNE := Lib.hid (show ∀ w, (binOp .neq 54 (.agg XC) (.agg XC)).run Tryz.prog w = .ok (.bool false) w from fun w => by rw [hXC]; exact neqVal_self x w)
      obtain ⟨X0, hX0⟩ : ∃ X, X = SxM ab ao ab2 ao2 k x := ⟨_, rfl⟩
      have HX1 := Lib.hid (show ∀ w, X0 w → w.rangeAt ab (ao + k * 34) XC.toList from fun w h => by rw [hX0] at h; rw [hXC]; exact h.r1)
      have HX2 := Lib.hid (show ∀ w, X0 w → w.rangeAt ab2 (ao2 + k * 34) XC.toList from fun w h => by rw [hX0] at h; rw [hXC]; exact h.r2)
      have KX := Lib.hid (show Kept X0 from by rw [hX0]; exact kept_sxm _ _ _ _ _ _)
      replace MX := Lib.hid (show Kp wr wr X0 from ⟨Below.refl _ _, by rw [hX0]; exact MX.out.x, KX.out⟩)
      clear hx hl1 hr1 hl2 hr2 hXC hX0 M
      have M := MX
      clear MX
      go_upto_region 10 with (fail)
      refine wp_region_T (fun w' => Kp wr w' X0) [0, 1, 2, 3, 4, 5, 6, 7, 8] (by kernel_rfl) ?_
      replace M := Lib.hid (M.out.call (Below.refl _ _).drew)
      generalize wr.drew = w10 at *
      refine anyT_take [] (i := 0) (v := .slice (some ⟨ab, ao, none⟩) N xc) rfl (by kernel_rfl) (by kernel_rfl) (by kernel_rfl) (fun _ _ _ h => h) (by kernel_rfl) (Or.inl ⟨by rfl, fun w' _ => by go_simp⟩) M.out ?_
      try simp only [List.getElem_toArray, List.getElem_cons_succ, List.getElem_cons_zero, Act.put, List.setIfInBounds_toArray, List.set_cons_zero, List.set_cons_succ]
      refine anyT_take [] (i := 1) (v := .int .i64 (k : Int)) rfl (by kernel_rfl) (by kernel_rfl) (by kernel_rfl) (fun _ _ _ h => h) (by kernel_rfl) (Or.inl ⟨by rfl, fun w' _ => by go_simp⟩) M.out ?_
      try simp only [List.getElem_toArray, List.getElem_cons_succ, List.getElem_cons_zero, Act.put, List.setIfInBounds_toArray, List.set_cons_zero, List.set_cons_succ]
      refine anyT_take [] (i := 2) (v := .pointer (some ⟨ab, ao + k * 34, none⟩)) rfl (by kernel_rfl) (by kernel_rfl) (by kernel_rfl) (fun _ _ _ h => h) (by kernel_rfl) (Or.inl ⟨by rfl, fun w' _ => by go_simp⟩) M.out ?_
      try simp only [List.getElem_toArray, List.getElem_cons_succ, List.getElem_cons_zero, Act.put, List.setIfInBounds_toArray, List.set_cons_zero, List.set_cons_succ]
      refine anyT_take [] (i := 4) (v := .slice (some ⟨ab2, ao2, none⟩) N yc) rfl (by kernel_rfl) (by kernel_rfl) (by kernel_rfl) (fun _ _ _ h => h) (by kernel_rfl) (Or.inl ⟨by rfl, fun w' _ => by go_simp⟩) M.out ?_
      try simp only [List.getElem_toArray, List.getElem_cons_succ, List.getElem_cons_zero, Act.put, List.setIfInBounds_toArray, List.set_cons_zero, List.set_cons_succ]
      refine anyT_take [] (i := 5) (v := .int .i64 (k : Int)) rfl (by kernel_rfl) (by kernel_rfl) (by kernel_rfl) (fun _ _ _ h => h) (by kernel_rfl) (Or.inl ⟨by rfl, fun w' _ => by go_simp⟩) M.out ?_
      try simp only [List.getElem_toArray, List.getElem_cons_succ, List.getElem_cons_zero, Act.put, List.setIfInBounds_toArray, List.set_cons_zero, List.set_cons_succ]
      refine anyT_take [] (i := 6) (v := .pointer (some ⟨ab2, ao2 + k * 34, none⟩)) rfl (by kernel_rfl) (by kernel_rfl) (by kernel_rfl) (fun _ _ _ h => h) (by kernel_rfl) (Or.inl ⟨by rfl, fun w' _ => by go_simp⟩) M.out ?_
      try simp only [List.getElem_toArray, List.getElem_cons_succ, List.getElem_cons_zero, Act.put, List.setIfInBounds_toArray, List.set_cons_zero, List.set_cons_succ]
      refine anyT_take [] (i := 3) (v := .agg XC) rfl (by kernel_rfl) (by kernel_rfl) (by kernel_rfl) (fun _ _ _ h => h) (by kernel_rfl) (rowT_yields (by rfl) 54 (.tmp 43) rfl ab (ao + k * 34) rfl _ _ (fun _ h => HX1.out _ h.x) Tryz.underlying54 rfl (by rw [HXS.out]; kernel_rfl)) M.out ?_
      try simp only [List.getElem_toArray, List.getElem_cons_succ, List.getElem_cons_zero, Act.put, List.setIfInBounds_toArray, List.set_cons_zero, List.set_cons_succ]
      refine anyT_take [] (i := 7) (v := .agg XC) rfl (by kernel_rfl) (by kernel_rfl) (by kernel_rfl) (fun _ _ _ h => h) (by kernel_rfl) (rowT_yields (by rfl) 54 (.tmp 47) rfl ab2 (ao2 + k * 34) rfl _ _ (fun _ h => HX2.out _ h.x) Tryz.underlying54 rfl (by rw [HXS.out]; kernel_rfl)) M.out ?_
      try simp only [List.getElem_toArray, List.getElem_cons_succ, List.getElem_cons_zero, Act.put, List.setIfInBounds_toArray, List.set_cons_zero, List.set_cons_succ]
      refine anyT_take [] (i := 8) (v := .bool false) rfl (by kernel_rfl) (by kernel_rfl) (by kernel_rfl) (fun _ _ _ h => h) (by kernel_rfl) (Or.inl ⟨by rfl, fun w' _ => run_neqA _ _ (.tmp 44) (.tmp 48) rfl XC rfl rfl HNE.out w'⟩) M.out ?_
      try simp only [List.getElem_toArray, List.getElem_cons_succ, List.getElem_cons_zero, Act.put, List.setIfInBounds_toArray, List.set_cons_zero, List.set_cons_succ]
      refine anyT_done (by kernel_rfl) ?_ _
      have MZ := Lib.hid (MY.out _ M.out.below)
      go_wp2_with (fail)
      go_roundw
      case rel => exact ⟨k + 1, by omega, by go_num, MZ⟩
      case measure => simp [intOf]; omega
    · obtain rfl : k = N := by omega
      clear HNN
      have KX := Lib.hid (kept_swx (.slice la n lc) (.slice ma n mc) (.slice xa k xc) (.slice ya k yc) l L)
      obtain ⟨X0, hX0⟩ : ∃ X, X = SwX (.slice la n lc) (.slice ma n mc) (.slice xa k xc) (.slice ya k yc) l L := ⟨_, rfl⟩
      have HX0 := Lib.hid (show ∀ w, X0 w → SwX (.slice la n lc) (.slice ma n mc) (.slice xa k xc) (.slice ya k yc) l L w from fun w h => by rw [hX0] at h; exact h)
      rw [← hX0] at M KX
      clear hX0
      go_upto_region 12 with (fail)
      refine wp_region_T (fun w' => Kp w w' X0) [0, 1, 2, 3, 4, 5, 6, 7, 8, 9, 10, 11, 12, 13, 14, 15, 16, 17, 18, 19, 20, 21, 22, 23, 24, 25, 26, 27, 28, 29, 30, 31, 32] (by kernel_rfl) ?_
      replace M := Lib.hid (M.out.call (Below.refl _ _).drew)
      generalize wr.drew = w20 at *
      refine anyT_take [] (i := 0) (v := .slice ma n mc) rfl (by kernel_rfl) (by kernel_rfl) (by kernel_rfl) (fun _ _ _ h => h) (by kernel_rfl) (Or.inl ⟨by rfl, fun w' _ => by go_simp⟩) M.out ?_
      try simp only [List.getElem_toArray, List.getElem_cons_succ, List.getElem_cons_zero, Act.put, List.setIfInBounds_toArray, List.set_cons_zero, List.set_cons_succ]
      refine anyT_take [] (i := 3) (v := .slice la n lc) rfl (by kernel_rfl) (by kernel_rfl) (by kernel_rfl) (fun _ _ _ h => h) (by kernel_rfl) (Or.inl ⟨by rfl, fun w' _ => by go_simp⟩) M.out ?_
      try simp only [List.getElem_toArray, List.getElem_cons_succ, List.getElem_cons_zero, Act.put, List.setIfInBounds_toArray, List.set_cons_zero, List.set_cons_succ]
      refine anyT_one (i := 1) (by kernel_rfl) rfl (fun K hK => ?_)
      rw [if_pos (by rfl)]
      try simp only [List.getElem_toArray, List.getElem_cons_succ, List.getElem_cons_zero]
      (go_simp; (with_reducible refine (HPC.out _ _ (HX0.out _ (M.out.x)).pm).mono ?_); rintro e w21 ⟨rfl, hb⟩;  replace M := Lib.hid (M.out.call hb); clear hb)
      refine hK _ _ (fun _ => M.out) ?_
      clear hK K
      try simp only [List.getElem_toArray, List.getElem_cons_succ, List.getElem_cons_zero, Act.put, List.setIfInBounds_toArray, List.set_cons_zero, List.set_cons_succ]
      refine anyT_one (i := 2) (by kernel_rfl) rfl (fun K hK => ?_)
      rw [if_pos (by rfl)]
      try simp only [List.getElem_toArray, List.getElem_cons_succ, List.getElem_cons_zero]
      (go_simp; (with_reducible refine (HNC.out _ (HG.out.below M.out.below)).mono ?_); rintro e w22 ⟨rfl, hb⟩;  replace M := Lib.hid (M.out.call hb); clear hb)
      refine hK _ _ (fun _ => M.out) ?_
      clear hK K
      try simp only [List.getElem_toArray, List.getElem_cons_succ, List.getElem_cons_zero, Act.put, List.setIfInBounds_toArray, List.set_cons_zero, List.set_cons_succ]
      refine anyT_one (i := 4) (by kernel_rfl) rfl (fun K hK => ?_)
      rw [if_pos (by rfl)]
      try simp only [List.getElem_toArray, List.getElem_cons_succ, List.getElem_cons_zero]
      (go_simp; (with_reducible refine (HRC.out _ _ (HX0.out _ (M.out.x)).pl).mono ?_); rintro e w23 ⟨rfl, hb⟩;  replace M := Lib.hid (M.out.call hb); clear hb)
      refine hK _ _ (fun _ => M.out) ?_
      clear hK K
      try simp only [List.getElem_toArray, List.getElem_cons_succ, List.getElem_cons_zero, Act.put, List.setIfInBounds_toArray, List.set_cons_zero, List.set_cons_succ]
      refine anyT_take [] (i := 5) (v := .bool true) rfl (by kernel_rfl) (by kernel_rfl) (by kernel_rfl) (fun _ _ _ h => h) (by kernel_rfl) (Or.inl ⟨by rfl, fun w' _ => by go_simp⟩) M.out ?_
      try simp only [List.getElem_toArray, List.getElem_cons_succ, List.getElem_cons_zero, Act.put, List.setIfInBounds_toArray, List.set_cons_zero, List.set_cons_succ]
      refine anyT_take [] (i := 6) (v := .bool true) rfl (by kernel_rfl) (by kernel_rfl) (by kernel_rfl) (fun _ _ _ h => h) (by kernel_rfl) (Or.inl ⟨by rfl, fun w' _ => by go_simp⟩) M.out ?_
      try simp only [List.getElem_toArray, List.getElem_cons_succ, List.getElem_cons_zero, Act.put, List.setIfInBounds_toArray, List.set_cons_zero, List.set_cons_succ]
      refine anyT_take [] (i := 7) (v := .slice ma n mc) rfl (by kernel_rfl) (by kernel_rfl) (by kernel_rfl) (fun _ _ _ h => h) (by kernel_rfl) (Or.inl ⟨by rfl, fun w' _ => by go_simp⟩) M.out ?_
      try simp only [List.getElem_toArray, List.getElem_cons_succ, List.getElem_cons_zero, Act.put, List.setIfInBounds_toArray, List.set_cons_zero, List.set_cons_succ]
      refine anyT_take [] (i := 9) (v := .slice la n lc) rfl (by kernel_rfl) (by kernel_rfl) (by kernel_rfl) (fun _ _ _ h => h) (by kernel_rfl) (Or.inl ⟨by rfl, fun w' _ => by go_simp⟩) M.out ?_
      try simp only [List.getElem_toArray, List.getElem_cons_succ, List.getElem_cons_zero, Act.put, List.setIfInBounds_toArray, List.set_cons_zero, List.set_cons_succ]
      refine anyT_one (i := 8) (by kernel_rfl) rfl (fun K hK => ?_)
      rw [if_pos (by rfl)]
      try simp only [List.getElem_toArray, List.getElem_cons_succ, List.getElem_cons_zero]
      (go_simp; (with_reducible refine (HPT.out _ _ (HX0.out _ (M.out.x)).pm).mono ?_); rintro e w24 ⟨rfl, hb⟩;  replace M := Lib.hid (M.out.call hb); clear hb)
      refine hK _ _ (fun _ => M.out) ?_
      clear hK K
      try simp only [List.getElem_toArray, List.getElem_cons_succ, List.getElem_cons_zero, Act.put, List.setIfInBounds_toArray, List.set_cons_zero, List.set_cons_succ]
      refine anyT_one (i := 10) (by kernel_rfl) rfl (fun K hK => ?_)
      rw [if_pos (by rfl)]
      try simp only [List.getElem_toArray, List.getElem_cons_succ, List.getElem_cons_zero]
      (go_simp; (with_reducible refine (HRT.out _ _ (HX0.out _ (M.out.x)).pl).mono ?_); rintro e w25 ⟨rfl, hb⟩;  replace M := Lib.hid (M.out.call hb); clear hb)
      refine hK _ _ (fun _ => M.out) ?_
      clear hK K
      try simp only [List.getElem_toArray, List.getElem_cons_succ, List.getElem_cons_zero, Act.put, List.setIfInBounds_toArray, List.set_cons_zero, List.set_cons_succ]
      refine anyT_take [] (i := 11) (v := .bool true) rfl (by kernel_rfl) (by kernel_rfl) (by kernel_rfl) (fun _ _ _ h => h) (by kernel_rfl) (Or.inl ⟨by rfl, fun w' _ => by go_simp⟩) M.out ?_
      try simp only [List.getElem_toArray, List.getElem_cons_succ, List.getElem_cons_zero, Act.put, List.setIfInBounds_toArray, List.set_cons_zero, List.set_cons_succ]
      refine anyT_take [] (i := 12) (v := .bool true) rfl (by kernel_rfl) (by kernel_rfl) (by kernel_rfl) (fun _ _ _ h => h) (by kernel_rfl) (Or.inl ⟨by rfl, fun w' _ => by go_simp⟩) M.out ?_
      try simp only [List.getElem_toArray, List.getElem_cons_succ, List.getElem_cons_zero, Act.put, List.setIfInBounds_toArray, List.set_cons_zero, List.set_cons_succ]
      refine anyT_take [] (i := 13) (v := .bool true) rfl (by kernel_rfl) (by kernel_rfl) (by kernel_rfl) (fun _ _ _ h => h) (by kernel_rfl) (Or.inl ⟨by rfl, fun w' _ => by go_simp⟩) M.out ?_
      try simp only [List.getElem_toArray, List.getElem_cons_succ, List.getElem_cons_zero, Act.put, List.setIfInBounds_toArray, List.set_cons_zero, List.set_cons_succ]
      refine anyT_take [] (i := 14) (v := .slice ma n mc) rfl (by kernel_rfl) (by kernel_rfl) (by kernel_rfl) (fun _ _ _ h => h) (by kernel_rfl) (Or.inl ⟨by rfl, fun w' _ => by go_simp⟩) M.out ?_
      try simp only [List.getElem_toArray, List.getElem_cons_succ, List.getElem_cons_zero, Act.put, List.setIfInBounds_toArray, List.set_cons_zero, List.set_cons_succ]
      refine anyT_take [] (i := 16) (v := .slice la n lc) rfl (by kernel_rfl) (by kernel_rfl) (by kernel_rfl) (fun _ _ _ h => h) (by kernel_rfl) (Or.inl ⟨by rfl, fun w' _ => by go_simp⟩) M.out ?_
      try simp only [List.getElem_toArray, List.getElem_cons_succ, List.getElem_cons_zero, Act.put, List.setIfInBounds_toArray, List.set_cons_zero, List.set_cons_succ]
      refine anyT_one (i := 15) (by kernel_rfl) rfl (fun K hK => ?_)
      rw [if_pos (by rfl)]
      try simp only [List.getElem_toArray, List.getElem_cons_succ, List.getElem_cons_zero]
      (go_simp; (with_reducible refine (HPH.out _ _ (HX0.out _ (M.out.x)).pe (HX0.out _ (M.out.x)).pm).mono ?_); rintro e w26 ⟨rfl, hb⟩;  replace M := Lib.hid (M.out.call hb); clear hb)
      refine hK _ _ (fun _ => M.out) ?_
      clear hK K
      try simp only [List.getElem_toArray, List.getElem_cons_succ, List.getElem_cons_zero, Act.put, List.setIfInBounds_toArray, List.set_cons_zero, List.set_cons_succ]
      refine anyT_one (i := 17) (by kernel_rfl) rfl (fun K hK => ?_)
      rw [if_pos (by rfl)]
      try simp only [List.getElem_toArray, List.getElem_cons_succ, List.getElem_cons_zero]
      (go_simp; (with_reducible refine (HRH.out _ _ (HX0.out _ (M.out.x)).pl).mono ?_); rintro e w27 ⟨rfl, hb⟩;  replace M := Lib.hid (M.out.call hb); clear hb)
      refine hK _ _ (fun _ => M.out) ?_
      clear hK K
      try simp only [List.getElem_toArray, List.getElem_cons_succ, List.getElem_cons_zero, Act.put, List.setIfInBounds_toArray, List.set_cons_zero, List.set_cons_succ]
      refine anyT_take [] (i := 18) (v := .bool true) rfl (by kernel_rfl) (by kernel_rfl) (by kernel_rfl) (fun _ _ _ h => h) (by kernel_rfl) (Or.inl ⟨by rfl, fun w' _ => by go_simp⟩) M.out ?_
      try simp only [List.getElem_toArray, List.getElem_cons_succ, List.getElem_cons_zero, Act.put, List.setIfInBounds_toArray, List.set_cons_zero, List.set_cons_succ]
      refine anyT_take [] (i := 19) (v := .bool true) rfl (by kernel_rfl) (by kernel_rfl) (by kernel_rfl) (fun _ _ _ h => h) (by kernel_rfl) (Or.inl ⟨by rfl, fun w' _ => by go_simp⟩) M.out ?_
      try simp only [List.getElem_toArray, List.getElem_cons_succ, List.getElem_cons_zero, Act.put, List.setIfInBounds_toArray, List.set_cons_zero, List.set_cons_succ]
      refine anyT_take [] (i := 20) (v := .bool true) rfl (by kernel_rfl) (by kernel_rfl) (by kernel_rfl) (fun _ _ _ h => h) (by kernel_rfl) (Or.inl ⟨by rfl, fun w' _ => by go_simp⟩) M.out ?_
      try simp only [List.getElem_toArray, List.getElem_cons_succ, List.getElem_cons_zero, Act.put, List.setIfInBounds_toArray, List.set_cons_zero, List.set_cons_succ]
      refine anyT_take [] (i := 21) (v := .slice ma n mc) rfl (by kernel_rfl) (by kernel_rfl) (by kernel_rfl) (fun _ _ _ h => h) (by kernel_rfl) (Or.inl ⟨by rfl, fun w' _ => by go_simp⟩) M.out ?_
      try simp only [List.getElem_toArray, List.getElem_cons_succ, List.getElem_cons_zero, Act.put, List.setIfInBounds_toArray, List.set_cons_zero, List.set_cons_succ]
      refine anyT_take [] (i := 24) (v := .slice la n lc) rfl (by kernel_rfl) (by kernel_rfl) (by kernel_rfl) (fun _ _ _ h => h) (by kernel_rfl) (Or.inl ⟨by rfl, fun w' _ => by go_simp⟩) M.out ?_
      try simp only [List.getElem_toArray, List.getElem_cons_succ, List.getElem_cons_zero, Act.put, List.setIfInBounds_toArray, List.set_cons_zero, List.set_cons_succ]
      refine anyT_one (i := 22) (by kernel_rfl) rfl (fun K hK => ?_)
      rw [if_pos (by rfl)]
      try simp only [List.getElem_toArray, List.getElem_cons_succ, List.getElem_cons_zero]
      (go_simp; (with_reducible refine (HPE.out _ _ (HX0.out _ (M.out.x)).pm).mono ?_); rintro e w28 ⟨v22, rfl, hby, hb⟩; obtain ⟨a22, c22, rfl, -⟩ := id hby; have HB22 := Lib.hid hby; clear hby; replace M := Lib.hid (M.out.call hb); clear hb)
      refine hK _ _ (fun _ => M.out) ?_
      clear hK K
      try simp only [List.getElem_toArray, List.getElem_cons_succ, List.getElem_cons_zero, Act.put, List.setIfInBounds_toArray, List.set_cons_zero, List.set_cons_succ]
      replace M := Lib.hid (M.out.add HB22.out (kept_bytesS _ _))
      refine anyT_kpS (Y := fun w => BytesIn w (.slice a22 SL.length c22) SL) KX.out ?_
      replace KX := Lib.hid (KX.out.and (kept_bytesS (.slice a22 SL.length c22) SL))
      clear HB22
      refine anyT_take [] (i := 23) (v := .string KB) rfl (by kernel_rfl) (by kernel_rfl) (by kernel_rfl) (fun _ _ _ h => h) (by kernel_rfl) (Or.inl ⟨by rfl, fun w' hS => by have c := conv_bytes w' _ _ hS.x.2; rw [← HKB.out] at c; go_simp⟩) M.out ?_
      try simp only [List.getElem_toArray, List.getElem_cons_succ, List.getElem_cons_zero, Act.put, List.setIfInBounds_toArray, List.set_cons_zero, List.set_cons_succ]
      refine anyT_one (i := 25) (by kernel_rfl) rfl (fun K hK => ?_)
      rw [if_pos (by rfl)]
      try simp only [List.getElem_toArray, List.getElem_cons_succ, List.getElem_cons_zero]
      (go_simp; (with_reducible refine (HRE.out _ _ (HX0.out _ (M.out.x.1)).pl).mono ?_); rintro e w29 ⟨v25, rfl, hby, hb⟩; obtain ⟨a25, c25, rfl, -⟩ := id hby; have HB25 := Lib.hid hby; clear hby; replace M := Lib.hid (M.out.call hb); clear hb)
      refine hK _ _ (fun _ => M.out) ?_
      clear hK K
      try simp only [List.getElem_toArray, List.getElem_cons_succ, List.getElem_cons_zero, Act.put, List.setIfInBounds_toArray, List.set_cons_zero, List.set_cons_succ]
      replace M := Lib.hid (M.out.add HB25.out (kept_bytesS _ _))
      refine anyT_kpS (Y := fun w => BytesIn w (.slice a25 SL.length c25) SL) KX.out ?_
      replace KX := Lib.hid (KX.out.and (kept_bytesS (.slice a25 SL.length c25) SL))
      clear HB25
      refine anyT_take [] (i := 26) (v := .string KB) rfl (by kernel_rfl) (by kernel_rfl) (by kernel_rfl) (fun _ _ _ h => h) (by kernel_rfl) (Or.inl ⟨by rfl, fun w' hS => by have c := conv_bytes w' _ _ hS.x.2; rw [← HKB.out] at c; go_simp⟩) M.out ?_
      try simp only [List.getElem_toArray, List.getElem_cons_succ, List.getElem_cons_zero, Act.put, List.setIfInBounds_toArray, List.set_cons_zero, List.set_cons_succ]
      refine anyT_take [] (i := 27) (v := .bool true) rfl (by kernel_rfl) (by kernel_rfl) (by kernel_rfl) (fun _ _ _ h => h) (by kernel_rfl) (Or.inl ⟨by rfl, fun w' _ => by go_simp⟩) M.out ?_
      try simp only [List.getElem_toArray, List.getElem_cons_succ, List.getElem_cons_zero, Act.put, List.setIfInBounds_toArray, List.set_cons_zero, List.set_cons_succ]
      refine anyT_take [] (i := 28) (v := .bool true) rfl (by kernel_rfl) (by kernel_rfl) (by kernel_rfl) (fun _ _ _ h => h) (by kernel_rfl) (Or.inl ⟨by rfl, fun w' _ => by go_simp⟩) M.out ?_
      try simp only [List.getElem_toArray, List.getElem_cons_succ, List.getElem_cons_zero, Act.put, List.setIfInBounds_toArray, List.set_cons_zero, List.set_cons_succ]
      refine anyT_take [] (i := 29) (v := .bool true) rfl (by kernel_rfl) (by kernel_rfl) (by kernel_rfl) (fun _ _ _ h => h) (by kernel_rfl) (Or.inl ⟨by rfl, fun w' _ => by go_simp⟩) M.out ?_
      try simp only [List.getElem_toArray, List.getElem_cons_succ, List.getElem_cons_zero, Act.put, List.setIfInBounds_toArray, List.set_cons_zero, List.set_cons_succ]
      refine anyT_one (i := 30) (by kernel_rfl) rfl (fun K hK => ?_)
      rw [if_pos (by rfl)]
      try simp only [List.getElem_toArray, List.getElem_cons_succ, List.getElem_cons_zero]
      (go_simp; (with_reducible refine (HSU.out _ M.out.below).mono ?_); rintro e w30 ⟨rfl, hb⟩;  replace M := Lib.hid (M.out.call hb); clear hb)
      refine hK _ _ (fun _ => M.out) ?_
      clear hK K
      try simp only [List.getElem_toArray, List.getElem_cons_succ, List.getElem_cons_zero, Act.put, List.setIfInBounds_toArray, List.set_cons_zero, List.set_cons_succ]
      refine anyT_take [] (i := 31) (v := .bool true) rfl (by kernel_rfl) (by kernel_rfl) (by kernel_rfl) (fun _ _ _ h => h) (by kernel_rfl) (Or.inl ⟨by rfl, fun w' _ => by go_simp⟩) M.out ?_
      try simp only [List.getElem_toArray, List.getElem_cons_succ, List.getElem_cons_zero, Act.put, List.setIfInBounds_toArray, List.set_cons_zero, List.set_cons_succ]
      refine anyT_take [] (i := 32) (v := .bool true) rfl (by kernel_rfl) (by kernel_rfl) (by kernel_rfl) (fun _ _ _ h => h) (by kernel_rfl) (Or.inl ⟨by rfl, fun w' _ => by go_simp⟩) M.out ?_
      try simp only [List.getElem_toArray, List.getElem_cons_succ, List.getElem_cons_zero, Act.put, List.setIfInBounds_toArray, List.set_cons_zero, List.set_cons_succ]
      refine anyT_done (by kernel_rfl) ?_ _
      go_wp2_with (fail)
      go_ret
      exact ⟨rfl, M.out.below⟩
end Go.Proofs.YteokgklfljhcaaaGreatDoor

/- Part 38 of the proof. -/
import Derived.Test.YtjnpcmfpiejmjaaGreatDoorVo29
namespace Go.Proofs.YtjnpcmfpiejmjaaGreatDoor
set_option linter.unusedVariables false
set_option linter.unusedSimpArgs false
open Go.RowKit
set_option maxRecDepth 100000
set_option linter.unusedSimpArgs false
set_option linter.unusedVariables false
/-- the first error of so many -/
def fstE (f : Nat → Option Nat) : Nat → Option Nat
  | 0 => none
  | k + 1 => match fstE f k with
    | some x => some x
    | none => f k
theorem fstE_next {f : Nat → Option Nat} {k : Nat} (h : fstE f k = none) : fstE f (k + 1) = f k := by
  show (match fstE f k with | some x => some x | none => f k) = _
  rw [h]
theorem fstE_hit {f : Nat → Option Nat} {k x : Nat} (h : fstE f k = none) (hx : f k = some x) : ∀ n, k < n → fstE f n = some x
  | 0, hn => by omega
  | n + 1, hn => by
    rcases (by omega : k = n ∨ k < n) with rfl | h1
    · rw [fstE_next h, hx]
    · show (match fstE f n with | some x => some x | none => f n) = _
      rw [fstE_hit h hx n h1]
theorem fstE_none {f : Nat → Option Nat} : ∀ (n : Nat), fstE f n = none → ∀ k, k < n → f k = none
  | 0, _, k, hk => by omega
  | n + 1, h, k, hk => by
    have h1 : fstE f n = none := by
      cases e : fstE f n with
      | none => rfl
      | some x =>
        have : fstE f (n + 1) = some x := by show (match fstE f n with | some x => some x | none => f n) = _; rw [e]
        rw [this] at h; cases h
    rw [fstE_next h1] at h
    rcases (by omega : k = n ∨ k < n) with rfl | h2
    · exact h
    · exact fstE_none n h1 k h2
/-- greater than the one ahead of it -/
def prevB (vs : List Vo) (k : Nat) (v : Vo) : Bool := decide (k = 0) || (match vs[k - 1]? with | some u => decide (u.val < v.val) | none => true)
theorem prev_yes {vs : List Vo} {k : Nat} {v : Vo} (h : ∀ u, 0 < k → vs[k - 1]? = some u → u.val < v.val) : prevB vs k v = true := by
  unfold prevB
  by_cases h0 : k = 0
  · rw [decide_eq_true h0]; rfl
  · cases hu : vs[k - 1]? with
    | none => simp
    | some u => simp only; rw [decide_eq_true (h u (by omega) hu), Bool.or_true]
theorem prev_spec {vs : List Vo} {k : Nat} {v u : Vo} (h : prevB vs k v = true) (h0 : 0 < k) (hu : vs[k - 1]? = some u) : u.val < v.val := by
  unfold prevB at h
  rw [decide_eq_false (by omega), hu, Bool.false_or] at h
  exact of_decide_eq_true h
/-- a commit's vote in its place -/
def vcAt (chain : ByteArray) (l : List Va) (D E : Int) (c : Cm) (vs : List Vo) (k : Nat) : Option Nat :=
  match vs[k]? with
  | none => none
  | some v => if (partB v c && prevB vs k v) = true then vvE chain l D E v else some 31
def powV (l : List Va) (vs : List Vo) : Nat → Int
  | 0 => 0
  | k + 1 => match vs[k]? with
    | none => powV l vs k
    | some v => wrap64 (powV l vs k + (l[v.val.toNat]?.getD zV).pow)
theorem powV_next {l : List Va} {vs : List Vo} {k m : Nat} {v : Vo} {x : Va} (h : vs[k]? = some v) (hm : v.val = (m : Int)) (hx : l[m]? = some x) : powV l vs (k + 1) = wrap64 (powV l vs k + x.pow) := by
  show (match vs[k]? with | none => powV l vs k | some v => wrap64 (powV l vs k + (l[v.val.toNat]?.getD zV).pow)) = _
  rw [h]
  simp only
  rw [hm, Int.toNat_natCast, hx]
  rfl
/-- VerifyCommit -/
def vcE (chain : ByteArray) (l : List Va) (D E : Int) (c : Cm) (vs : List Vo) : Option Nat :=
  match ckE l with
  | some x => some x
  | none => if eqB c.blk (fun _ => 0) = true then some 31 else
    match fstE (vcAt chain l D E c vs) vs.length with
    | some x => some x
    | none => if twoB (powV l vs vs.length) (totV l) = true then none else some 32
theorem vc_spec {chain : ByteArray} {l : List Va} {D E : Int} {c : Cm} {vs : List Vo} (h : vcE chain l D E c vs = none) : ckE l = none ∧ (∀ k, k < vs.length → vcAt chain l D E c vs k = none) ∧ twoB (powV l vs vs.length) (totV l) = true := by
  unfold vcE at h
  cases h1 : ckE l with
  | some x => rw [h1] at h; cases h
  | none =>
    rw [h1] at h
    simp only at h
    split at h
    · cases h
    · cases h2 : fstE (vcAt chain l D E c vs) vs.length with
      | some x => rw [h2] at h; cases h
      | none =>
        rw [h2] at h
        simp only at h
        split at h
        · rename_i h3; exact ⟨rfl, fstE_none _ h2, h3⟩
        · cases h
theorem vo_val {w : World} {ab o : Nat} {v : Vo} (h : w.rangeAt ab o (voC v).toList) : w.cell? ⟨ab, o + 35, none⟩ = some (.int .i64 v.val) :=
  h 35 _ (by
    rw [Array.getElem?_toList]; unfold voC
    rw [Array.getElem?_append_right (by simp [rowOf_size])]; simp [rowOf_size])
theorem cmC_one (c : Cm) (a : Option Addr) (n k : Nat) : (cmC c (.slice a n k)).all (·.oneCell') = true := by
  unfold cmC
  rw [Array.all_append, Array.all_append, rowOf_one]
  simp [Value.oneCell']
/-- what lies in memory while VerifyCommit goes on -/
structure VcM (w0 : World) (g6 g7 : Nat) (D E : Int) (c : Cm) (vv : Value) (l : List Va) (lv : Value) (vs : List Vo) (w : World) : Prop where
  below : Below w0.heap.size w0 w
  h6 : w.heap[g6]? = some (.cells (parC D E) 42 (0, 0))
  h7 : w.heap[g7]? = some (.cells (cmC c vv) 59 (0, 0))
  l : VaIn w lv l
  vin : VoIn w vv vs
  sg : ∀ t ∈ vs, BytesIn w t.sv t.sign
theorem VcM.call {w0 w w' : World} {g6 g7 : Nat} {D E : Int} {c : Cm} {vv : Value} {l : List Va} {lv : Value} {vs : List Vo} (m : VcM w0 g6 g7 D E c vv l lv vs w) (hb : Below w.heap.size w w') : VcM w0 g6 g7 D E c vv l lv vs w' :=
  ⟨m.below.trans (hb.mono m.below.size), (hb.block _ (bkT_lt m.h6)).trans m.h6, (hb.block _ (bkT_lt m.h7)).trans m.h7, m.l.below hb, m.vin.below hb, fun t ht => (m.sg t ht).below hb⟩
theorem hash_zero : Tryz.prog.built 32 [] = some (rowOf .u8 32 (fun _ => 0)) := by kernel_rfl
/-- a vote that may be signed for -/
structure VoIs (v : Vo) : Prop where
  ok : VoOk v
  b : bytesOk v.sign
  z : v.sign.length ≤ 140737488355328
set_option maxHeartbeats 32000000 in
theorem vcommit_any (chain : ByteArray) (l : List Va) (lv : Value) (D E : Int) (c : Cm) (vs : List Vo) (vv : Value) (w : World) (he : Env w) (hl : VaIn w lv l) (hv : VoIn w vv vs) (hs : ∀ t ∈ vs, BytesIn w t.sv t.sign) (hc : chain.size ≤ 140737488351232) (hz : ∀ x ∈ l, x.name.size ≤ 140737488351232) (ho : ∀ t ∈ vs, VoIs t) :
    Calls Tryz.prog 50 #[.string chain, lv, .agg (parC D E), .agg (cmC c vv)] w fun e w' => e = .returned (errV (vcE chain l D E c vs)) ∧ Below w.heap.size w w' := by
  obtain ⟨la, lc, rfl, -, hlm⟩ := hl.len
  obtain ⟨qa, qc, rfl, -, hqm⟩ := hv.len
  have hb1 := below_alloc w (.cells (parC D E) 42)
  have hb2 := below_alloc (w.alloc (.cells (parC D E) 42)) (.cells (cmC c (.slice qa vs.length qc)) 59)
  have h7 := heap_alloc_new (w.alloc (.cells (parC D E) 42)) (.cells (cmC c (.slice qa vs.length qc)) 59)
  rw [size_alloc] at h7
  have M := Lib.hid (show VcM w w.heap.size (w.heap.size + 1) D E c (.slice qa vs.length qc) l (.slice la l.length lc) vs ((w.alloc (.cells (parC D E) 42)).alloc (.cells (cmC c (.slice qa vs.length qc)) 59)) from
    ⟨hb1.trans (hb2.mono (by simp)), (hb2.block _ (by simp)).trans (heap_alloc_new w _), h7, (hl.below hb1).below hb2, (hv.below hb1).below hb2, fun t ht => ((hs t ht).below hb1).below hb2⟩)
  have HE := Lib.hid he
  have HCK := Lib.hid (fun w h => checkset_any l (.slice la l.length lc) w h hz)
  have HTO := Lib.hid (fun w h => total_any l (.slice la l.length lc) w h)
  have HTW := Lib.hid (fun p t w => twothirds_any p t w)
  have HIP := Lib.hid (fun v w => ispart_any v c (.slice qa vs.length qc) w)
  have HVS := Lib.hid ho
  have HVV := Lib.hid (show l.length ≤ 1048576 → ∀ v ∈ vs, ∀ w, Env w → VaIn w (.slice la l.length lc) l → BytesIn w v.sv v.sign → Calls Tryz.prog 21 #[.string chain, .slice la l.length lc, .agg (parC D E), .agg (voC v)] w fun e w' => e = .returned (errV (vvE chain l D E v)) ∧ Below w.heap.size w w' from fun hn v hm w he h1 h2 => vvote_any chain l _ D E v w he h1 h2 hc (ho v hm).ok (ho v hm).b (ho v hm).z (Nat.le_trans hn (by omega)))
  obtain ⟨E1, hE1⟩ : ∃ E1, E1 = vcE chain l D E c vs := ⟨_, rfl⟩
  have HEE := Lib.hid hE1
  obtain ⟨nl, hnl⟩ : ∃ n, n = l.length := ⟨_, rfl⟩
  obtain ⟨nv, hnv⟩ : ∃ n, n = vs.length := ⟨_, rfl⟩
  have HNL := Lib.hid hnl
  have HNV := Lib.hid hnv
  have hnv1 : nv ≤ 9223372036854775807 := by unfold maxLen at hqm; omega
  rw [← hnl] at M HCK HTO HVV ⊢
  rw [← hnv] at M HIP ⊢
  rw [← hE1]
  clear hb1 hb2 h7 he hl hv hs hc hz ho hE1 hnl hnv hlm hqm
  go_enter Tryz.func50, Tryz.ntmps50
  go_upto_region 1 with (fail)
  obtain ⟨g6, hg6⟩ : ∃ g, g = w.heap.size := ⟨_, rfl⟩
  obtain ⟨g7, hg7⟩ : ∃ g, g = w.heap.size + 1 := ⟨_, rfl⟩
  rw [← hg7, ← hg6] at M
  rw [← hg7, ← hg6]
  clear hg6 hg7
  generalize (w.alloc (.cells (parC D E) 42)).alloc (.cells (cmC c (.slice qa nv qc)) 59) = w1 at *
  cases hck : ckE l with
  | some x =>
    have HF := Lib.hid (show vcE chain l D E c vs = some x from by unfold vcE; rw [hck])
    rw [hck] at HCK
    simp only [errV] at HCK
    clear hck
    go_wp2_with (go_at_call 11; (with_reducible refine (HCK.out _ M.out.l).mono ?_); rintro e w2 ⟨rfl, hb⟩; replace M := Lib.hid (M.out.call hb); clear hb)
    go_ret
    exact ⟨by rw [HEE.out, HF.out]; rfl, M.out.below⟩
  | none =>
    have hl32 := (ck_spec hck).2.1
    have HVV2 := Lib.hid (HVV.out (by rw [HNL.out]; omega))
    have HCKN := Lib.hid hck
    rw [hck] at HCK
    simp only [errV] at HCK
    clear hck hl32 HVV
    go_upto_region 4 with (go_at_call 11; (with_reducible refine (HCK.out _ M.out.l).mono ?_); rintro e w2 ⟨rfl, hb⟩; replace M := Lib.hid (M.out.call hb); clear hb)
    clear HCK
    have heq := eq32 c.blk (fun _ => 0)
    obtain ⟨zb, hzb⟩ : ∃ z, z = eqB c.blk (fun _ => 0) := ⟨_, rfl⟩
    rw [← hzb] at heq
    have HZB := Lib.hid hzb
    clear hzb
    cases zb with
    | true =>
      have HF := Lib.hid (show vcE chain l D E c vs = some 31 from by unfold vcE; rw [HCKN.out]; simp only; rw [if_pos HZB.out.symm])
      go_wp2_with (first
        | (refine wpList_load_rowT (by rfl) 32 (.tmp 19) rfl g7 2 rfl (rowOf .u8 32 c.blk) _ (cm_cells M.out.h7).2.2.1 Tryz.underlying32 rfl (by rw [rowOf_size]; kernel_rfl) ?_)
        | (refine wpList_builtT rfl 32 #[] rfl (rowOf .u8 32 (fun _ => 0)) (by kernel_rfl) ?_))
      go_ret
      exact ⟨by rw [HEE.out, HF.out]; rfl, M.out.below⟩
    | false =>
      have HV0 := Lib.hid (show vcE chain l D E c vs = match fstE (vcAt chain l D E c vs) nv with | some x => some x | none => if twoB (powV l vs nv) (totV l) = true then none else some 32 from by unfold vcE; rw [HCKN.out, HNV.out]; simp only; rw [if_neg (by rw [← HZB.out]; simp)])
      go_upto_region 7 with (first
        | (refine wpList_load_rowT (by rfl) 32 (.tmp 19) rfl g7 2 rfl (rowOf .u8 32 c.blk) _ (cm_cells M.out.h7).2.2.1 Tryz.underlying32 rfl (by rw [rowOf_size]; kernel_rfl) ?_)
        | (refine wpList_builtT rfl 32 #[] rfl (rowOf .u8 32 (fun _ => 0)) (by kernel_rfl) ?_))
      clear heq
      have c34 := (cm_cells M.out.h7).2.2.2
      go_upto_region 8 with (fail)
      clear c34
      have HR0 := Lib.hid (show fstE (vcAt chain l D E c vs) 0 = none ∧ (0 : Int) = powV l vs 0 from ⟨rfl, rfl⟩)
      have HM0 := M
      clear M
      obtain ⟨f, hf⟩ : ∃ f, f = vcAt chain l D E c vs := ⟨_, rfl⟩
      rw [← hf] at HR0 HV0
      have HFD := Lib.hid hf
      clear hf
      go_wp2_with (fail)
      go_loopw [10, 27] (fun y x wr => ∃ (k : Nat) (s : Int), k ≤ nv ∧ y = .int .i64 s ∧ x = .int .i64 (k : Int) ∧ Hid (fstE f k = none ∧ s = powV l vs k) ∧ Hid (VcM w g6 g7 D E c (.slice qa nv qc) l (.slice la nl lc) vs wr)) (fun _ x _ => nv - (intOf x).toNat)
      case atStart => exact ⟨0, _, Nat.zero_le _, rfl, rfl, HR0, HM0⟩
      case round =>
        clear HR0 HM0
        obtain ⟨k, s, hkn, rfl, rfl, HR, HM⟩ := hrel
        by_cases hlt : k < nv
        · have hltI : (k : Int) < (nv : Int) := by omega
          obtain ⟨v, hv⟩ : ∃ v, vs[k]? = some v := ⟨vs[k]'(by have := HNV.out; omega), List.getElem?_eq_getElem _⟩
          have hvi := HM.out.vin
          rw [HNV.out] at hvi
          obtain ⟨ab, ao, rfl, hab, hra⟩ := hvi.at hv
          have HRA := Lib.hid hra
          have HVK := Lib.hid hv
          have HMEM := Lib.hid (List.mem_of_getElem? hv)
          have HVIS := Lib.hid (HVS.out v HMEM.out)
          obtain ⟨sa, sc, hsv, -, -, -⟩ := HM.out.sg v HMEM.out
          have HSV := Lib.hid (show ∃ a n c, v.sv = .slice a n c from ⟨_, _, _, hsv⟩)
          clear hvi hab hra hv hsv
          go_upto_region 10 with (first
            | (refine wpList_load_rowT (by rfl) 46 (.tmp 30) rfl ab (ao + k * 37) rfl (voC v) _ HRA.out Tryz.underlying46 rfl (by rw [voC_size]; kernel_rfl) ?_)
            | (refine wpList_store_row rfl 46 (.tmp 12) (.tmp 31) rfl wr.heap.size (voC v) rfl rfl 46 _ (heap_alloc_new _ _) (by rw [voC_size]; kernel_rfl) (by rw [voC_size]; rfl) (voC_one _ HSV.out) ?_; rw [World.setRow_alloc_new]))
          have hba := below_alloc wr (.cells (voC v) 46)
          have HQ := Lib.hid (heap_alloc_new wr (.cells (voC v) 46))
          have M := Lib.hid (HM.out.call hba)
          obtain ⟨q, hq⟩ : ∃ q, q = wr.heap.size := ⟨_, rfl⟩
          rw [← hq] at HQ ⊢
          clear hba hq HRA HM
          generalize wr.alloc (.cells (voC v) 46) = w3 at *
          have HIV := Lib.hid (fun w => HIP.out v w)
          cases hpt : partB v c with
          | false =>
            have HF := Lib.hid (show f k = some 31 from by rw [HFD.out]; unfold vcAt; rw [HVK.out]; simp only; rw [if_neg (by rw [hpt]; simp)])
            rw [hpt] at HIV
            clear hpt
            refine wp_region_T (fun w' => VcM w g6 g7 D E c (.slice (some ⟨ab, ao, none⟩) nv qc) l (.slice la nl lc) vs w' ∧ w'.heap[q]? = some (.cells (voC v) 46 (0, 0))) [0, 1, 2, 3, 4, 5, 6, 7, 8, 9, 10, 11, 12, 13, 14, 15, 16, 17, 18, 19] (by kernel_rfl) ?_
            replace M := Lib.hid (M.out.call (Below.refl _ _).drew)
            replace HQ := Lib.hid (show w3.drew.heap[q]? = some (.cells (voC v) 46 (0, 0)) from HQ.out)
            generalize w3.drew = w4 at *
            refine anyT_take [] (i := 0) (v := .agg (voC v)) rfl (by kernel_rfl) (by kernel_rfl) (by kernel_rfl) (fun _ _ _ h => h) (by kernel_rfl) (rowT_yields (by rfl) 46 (.tmp 12) rfl q 0 rfl _ _ (fun _ hS => rowT_range (hS.2)) Tryz.underlying46 rfl (by rw [voC_size]; kernel_rfl)) ⟨M.out, HQ.out⟩ ?_
            try simp only [List.getElem_toArray, List.getElem_cons_succ, List.getElem_cons_zero, Act.put, List.setIfInBounds_toArray, List.set_cons_zero, List.set_cons_succ]
            refine anyT_take [] (i := 1) (v := .agg (cmC c (.slice (some ⟨ab, ao, none⟩) nv qc))) rfl (by kernel_rfl) (by kernel_rfl) (by kernel_rfl) (fun _ _ _ h => h) (by kernel_rfl) (rowT_yields (by rfl) 59 (.tmp 7) rfl g7 0 rfl _ _ (fun _ hS => rowT_range (hS.1.h7)) Tryz.underlying59 rfl (by rw [cmC_size]; kernel_rfl)) ⟨M.out, HQ.out⟩ ?_
            try simp only [List.getElem_toArray, List.getElem_cons_succ, List.getElem_cons_zero, Act.put, List.setIfInBounds_toArray, List.set_cons_zero, List.set_cons_succ]
            refine anyT_one (i := 2) (by kernel_rfl) rfl (fun K hK => ?_)
            rw [if_pos (by rfl)]
            try simp only [List.getElem_toArray, List.getElem_cons_succ, List.getElem_cons_zero]
            (go_simp; (with_reducible refine (HIV.out _).mono ?_); rintro e w5 ⟨rfl, hb⟩; replace M := Lib.hid (M.out.call hb); replace HQ := Lib.hid ((hb.block _ (bkT_lt HQ.out)).trans HQ.out); clear hb)
            refine hK _ _ (fun _ => ⟨M.out, HQ.out⟩) ?_
            clear hK K
            try simp only [List.getElem_toArray, List.getElem_cons_succ, List.getElem_cons_zero, Act.put, List.setIfInBounds_toArray, List.set_cons_zero, List.set_cons_succ]
            refine anyT_take [] (i := 3) (v := .bool true) rfl (by kernel_rfl) (by kernel_rfl) (by kernel_rfl) (fun _ _ _ h => h) (by kernel_rfl) (Or.inl ⟨by rfl, fun w' _ => by go_simp⟩) ⟨M.out, HQ.out⟩ ?_
            try simp only [List.getElem_toArray, List.getElem_cons_succ, List.getElem_cons_zero, Act.put, List.setIfInBounds_toArray, List.set_cons_zero, List.set_cons_succ]
            refine anyT_take [] (i := 4) (v := .bool true) rfl (by kernel_rfl) (by kernel_rfl) (by kernel_rfl) (fun _ _ _ h => h) (by kernel_rfl) (Or.inl ⟨by rfl, fun w' _ => by go_simp⟩) ⟨M.out, HQ.out⟩ ?_
            try simp only [List.getElem_toArray, List.getElem_cons_succ, List.getElem_cons_zero, Act.put, List.setIfInBounds_toArray, List.set_cons_zero, List.set_cons_succ]
            refine anyT_take [] (i := 5) (v := undef) rfl (by kernel_rfl) (by kernel_rfl) (by kernel_rfl) (fun _ _ _ h => h) (by kernel_rfl) (Or.inr ⟨by rfl, rfl⟩) ⟨M.out, HQ.out⟩ ?_
            try simp only [List.getElem_toArray, List.getElem_cons_succ, List.getElem_cons_zero, Act.put, List.setIfInBounds_toArray, List.set_cons_zero, List.set_cons_succ]
            refine anyT_take [] (i := 6) (v := undef) rfl (by kernel_rfl) (by kernel_rfl) (by kernel_rfl) (fun _ _ _ h => h) (by kernel_rfl) (Or.inr ⟨by rfl, rfl⟩) ⟨M.out, HQ.out⟩ ?_
            try simp only [List.getElem_toArray, List.getElem_cons_succ, List.getElem_cons_zero, Act.put, List.setIfInBounds_toArray, List.set_cons_zero, List.set_cons_succ]
            refine anyT_take [] (i := 7) (v := undef) rfl (by kernel_rfl) (by kernel_rfl) (by kernel_rfl) (fun _ _ _ h => h) (by kernel_rfl) (Or.inr ⟨by rfl, rfl⟩) ⟨M.out, HQ.out⟩ ?_
            try simp only [List.getElem_toArray, List.getElem_cons_succ, List.getElem_cons_zero, Act.put, List.setIfInBounds_toArray, List.set_cons_zero, List.set_cons_succ]
            refine anyT_take [] (i := 8) (v := undef) rfl (by kernel_rfl) (by kernel_rfl) (by kernel_rfl) (fun _ _ _ h => h) (by kernel_rfl) (Or.inr ⟨by rfl, rfl⟩) ⟨M.out, HQ.out⟩ ?_
            try simp only [List.getElem_toArray, List.getElem_cons_succ, List.getElem_cons_zero, Act.put, List.setIfInBounds_toArray, List.set_cons_zero, List.set_cons_succ]
            refine anyT_take [] (i := 9) (v := undef) rfl (by kernel_rfl) (by kernel_rfl) (by kernel_rfl) (fun _ _ _ h => h) (by kernel_rfl) (Or.inr ⟨by rfl, rfl⟩) ⟨M.out, HQ.out⟩ ?_
            try simp only [List.getElem_toArray, List.getElem_cons_succ, List.getElem_cons_zero, Act.put, List.setIfInBounds_toArray, List.set_cons_zero, List.set_cons_succ]
            refine anyT_take [] (i := 10) (v := undef) rfl (by kernel_rfl) (by kernel_rfl) (by kernel_rfl) (fun _ _ _ h => h) (by kernel_rfl) (Or.inr ⟨by rfl, rfl⟩) ⟨M.out, HQ.out⟩ ?_
            try simp only [List.getElem_toArray, List.getElem_cons_succ, List.getElem_cons_zero, Act.put, List.setIfInBounds_toArray, List.set_cons_zero, List.set_cons_succ]
            refine anyT_take [] (i := 11) (v := undef) rfl (by kernel_rfl) (by kernel_rfl) (by kernel_rfl) (fun _ _ _ h => h) (by kernel_rfl) (Or.inr ⟨by rfl, rfl⟩) ⟨M.out, HQ.out⟩ ?_
            try simp only [List.getElem_toArray, List.getElem_cons_succ, List.getElem_cons_zero, Act.put, List.setIfInBounds_toArray, List.set_cons_zero, List.set_cons_succ]
            refine anyT_take [] (i := 12) (v := undef) rfl (by kernel_rfl) (by kernel_rfl) (by kernel_rfl) (fun _ _ _ h => h) (by kernel_rfl) (Or.inr ⟨by rfl, rfl⟩) ⟨M.out, HQ.out⟩ ?_
            try simp only [List.getElem_toArray, List.getElem_cons_succ, List.getElem_cons_zero, Act.put, List.setIfInBounds_toArray, List.set_cons_zero, List.set_cons_succ]
            refine anyT_take [] (i := 13) (v := undef) rfl (by kernel_rfl) (by kernel_rfl) (by kernel_rfl) (fun _ _ _ h => h) (by kernel_rfl) (Or.inr ⟨by rfl, rfl⟩) ⟨M.out, HQ.out⟩ ?_
            try simp only [List.getElem_toArray, List.getElem_cons_succ, List.getElem_cons_zero, Act.put, List.setIfInBounds_toArray, List.set_cons_zero, List.set_cons_succ]
            refine anyT_take [] (i := 14) (v := undef) rfl (by kernel_rfl) (by kernel_rfl) (by kernel_rfl) (fun _ _ _ h => h) (by kernel_rfl) (Or.inr ⟨by rfl, rfl⟩) ⟨M.out, HQ.out⟩ ?_
            try simp only [List.getElem_toArray, List.getElem_cons_succ, List.getElem_cons_zero, Act.put, List.setIfInBounds_toArray, List.set_cons_zero, List.set_cons_succ]
            refine anyT_take [] (i := 15) (v := undef) rfl (by kernel_rfl) (by kernel_rfl) (by kernel_rfl) (fun _ _ _ h => h) (by kernel_rfl) (Or.inr ⟨by rfl, rfl⟩) ⟨M.out, HQ.out⟩ ?_
            try simp only [List.getElem_toArray, List.getElem_cons_succ, List.getElem_cons_zero, Act.put, List.setIfInBounds_toArray, List.set_cons_zero, List.set_cons_succ]
            refine anyT_take [] (i := 16) (v := undef) rfl (by kernel_rfl) (by kernel_rfl) (by kernel_rfl) (fun _ _ _ h => h) (by kernel_rfl) (Or.inr ⟨by rfl, rfl⟩) ⟨M.out, HQ.out⟩ ?_
            try simp only [List.getElem_toArray, List.getElem_cons_succ, List.getElem_cons_zero, Act.put, List.setIfInBounds_toArray, List.set_cons_zero, List.set_cons_succ]
            refine anyT_take [] (i := 17) (v := undef) rfl (by kernel_rfl) (by kernel_rfl) (by kernel_rfl) (fun _ _ _ h => h) (by kernel_rfl) (Or.inr ⟨by rfl, rfl⟩) ⟨M.out, HQ.out⟩ ?_
            try simp only [List.getElem_toArray, List.getElem_cons_succ, List.getElem_cons_zero, Act.put, List.setIfInBounds_toArray, List.set_cons_zero, List.set_cons_succ]
            refine anyT_take [] (i := 18) (v := undef) rfl (by kernel_rfl) (by kernel_rfl) (by kernel_rfl) (fun _ _ _ h => h) (by kernel_rfl) (Or.inr ⟨by rfl, rfl⟩) ⟨M.out, HQ.out⟩ ?_
            try simp only [List.getElem_toArray, List.getElem_cons_succ, List.getElem_cons_zero, Act.put, List.setIfInBounds_toArray, List.set_cons_zero, List.set_cons_succ]
            refine anyT_take [] (i := 19) (v := .bool true) rfl (by kernel_rfl) (by kernel_rfl) (by kernel_rfl) (fun _ _ _ h => h) (by kernel_rfl) (Or.inl ⟨by rfl, fun w' _ => by go_simp⟩) ⟨M.out, HQ.out⟩ ?_
            try simp only [List.getElem_toArray, List.getElem_cons_succ, List.getElem_cons_zero, Act.put, List.setIfInBounds_toArray, List.set_cons_zero, List.set_cons_succ]
            refine anyT_done (by kernel_rfl) ?_ _
            go_wp2_with (fail)
            go_ret
            exact ⟨by rw [HEE.out, HV0.out, fstE_hit HR.out.1 HF.out nv hlt]; rfl, M.out.below⟩
          | true =>
            have HPT := Lib.hid hpt
            rw [hpt] at HIV
            clear hpt
            -- what comes behind the check, whatever the way to it
            have HNEXT := Lib.hid (show (∀ u, 0 < k → vs[k - 1]? = some u → u.val < v.val) → f k = vvE chain l D E v from fun hu => by rw [HFD.out]; unfold vcAt; rw [HVK.out]; simp only; rw [if_pos (by rw [HPT.out, prev_yes hu]; rfl)])
            by_cases hk0 : k = 0
            · have HFK := Lib.hid (HNEXT.out (fun u h => by omega))
              have HK0N := Lib.hid hk0
              clear hk0 HNEXT
              refine wp_region_T (fun w' => VcM w g6 g7 D E c (.slice (some ⟨ab, ao, none⟩) nv qc) l (.slice la nl lc) vs w' ∧ w'.heap[q]? = some (.cells (voC v) 46 (0, 0))) [0, 1, 2, 3, 4, 5, 6, 7, 8, 9, 10, 11, 12, 13, 14, 15, 16, 17, 18, 19] (by kernel_rfl) ?_
              replace M := Lib.hid (M.out.call (Below.refl _ _).drew)
              replace HQ := Lib.hid (show w3.drew.heap[q]? = some (.cells (voC v) 46 (0, 0)) from HQ.out)
              generalize w3.drew = w4 at *
              refine anyT_take [] (i := 0) (v := .agg (voC v)) rfl (by kernel_rfl) (by kernel_rfl) (by kernel_rfl) (fun _ _ _ h => h) (by kernel_rfl) (rowT_yields (by rfl) 46 (.tmp 12) rfl q 0 rfl _ _ (fun _ hS => rowT_range (hS.2)) Tryz.underlying46 rfl (by rw [voC_size]; kernel_rfl)) ⟨M.out, HQ.out⟩ ?_
              try simp only [List.getElem_toArray, List.getElem_cons_succ, List.getElem_cons_zero, Act.put, List.setIfInBounds_toArray, List.set_cons_zero, List.set_cons_succ]
              refine anyT_take [] (i := 1) (v := .agg (cmC c (.slice (some ⟨ab, ao, none⟩) nv qc))) rfl (by kernel_rfl) (by kernel_rfl) (by kernel_rfl) (fun _ _ _ h => h) (by kernel_rfl) (rowT_yields (by rfl) 59 (.tmp 7) rfl g7 0 rfl _ _ (fun _ hS => rowT_range (hS.1.h7)) Tryz.underlying59 rfl (by rw [cmC_size]; kernel_rfl)) ⟨M.out, HQ.out⟩ ?_
              try simp only [List.getElem_toArray, List.getElem_cons_succ, List.getElem_cons_zero, Act.put, List.setIfInBounds_toArray, List.set_cons_zero, List.set_cons_succ]
              refine anyT_one (i := 2) (by kernel_rfl) rfl (fun K hK => ?_)
              rw [if_pos (by rfl)]
              try simp only [List.getElem_toArray, List.getElem_cons_succ, List.getElem_cons_zero]
              (go_simp; (with_reducible refine (HIV.out _).mono ?_); rintro e w5 ⟨rfl, hb⟩; replace M := Lib.hid (M.out.call hb); replace HQ := Lib.hid ((hb.block _ (bkT_lt HQ.out)).trans HQ.out); clear hb)
              refine hK _ _ (fun _ => ⟨M.out, HQ.out⟩) ?_
              clear hK K
              try simp only [List.getElem_toArray, List.getElem_cons_succ, List.getElem_cons_zero, Act.put, List.setIfInBounds_toArray, List.set_cons_zero, List.set_cons_succ]
              refine anyT_take [] (i := 3) (v := .bool false) rfl (by kernel_rfl) (by kernel_rfl) (by kernel_rfl) (fun _ _ _ h => h) (by kernel_rfl) (Or.inl ⟨by rfl, fun w' _ => by go_simp⟩) ⟨M.out, HQ.out⟩ ?_
              try simp only [List.getElem_toArray, List.getElem_cons_succ, List.getElem_cons_zero, Act.put, List.setIfInBounds_toArray, List.set_cons_zero, List.set_cons_succ]
              refine anyT_take [] (i := 4) (v := .bool false) rfl (by kernel_rfl) (by kernel_rfl) (by kernel_rfl) (fun _ _ _ h => h) (by kernel_rfl) (Or.inl ⟨by rfl, fun w' _ => by go_simp⟩) ⟨M.out, HQ.out⟩ ?_
              try simp only [List.getElem_toArray, List.getElem_cons_succ, List.getElem_cons_zero, Act.put, List.setIfInBounds_toArray, List.set_cons_zero, List.set_cons_succ]
              refine anyT_take [] (i := 5) (v := .int .i64 (k : Int)) rfl (by kernel_rfl) (by kernel_rfl) (by kernel_rfl) (fun _ _ _ h => h) (by kernel_rfl) (Or.inl ⟨by rfl, fun w' _ => by go_simp⟩) ⟨M.out, HQ.out⟩ ?_
              try simp only [List.getElem_toArray, List.getElem_cons_succ, List.getElem_cons_zero, Act.put, List.setIfInBounds_toArray, List.set_cons_zero, List.set_cons_succ]
              refine anyT_take [] (i := 6) (v := .bool false) rfl (by kernel_rfl) (by kernel_rfl) (by kernel_rfl) (fun _ _ _ h => h) (by kernel_rfl) (Or.inl ⟨by rfl, fun w' _ => by go_simp; exact HK0N.out⟩) ⟨M.out, HQ.out⟩ ?_
              try simp only [List.getElem_toArray, List.getElem_cons_succ, List.getElem_cons_zero, Act.put, List.setIfInBounds_toArray, List.set_cons_zero, List.set_cons_succ]
              refine anyT_take [] (i := 7) (v := .bool false) rfl (by kernel_rfl) (by kernel_rfl) (by kernel_rfl) (fun _ _ _ h => h) (by kernel_rfl) (Or.inl ⟨by rfl, fun w' _ => by go_simp⟩) ⟨M.out, HQ.out⟩ ?_
              try simp only [List.getElem_toArray, List.getElem_cons_succ, List.getElem_cons_zero, Act.put, List.setIfInBounds_toArray, List.set_cons_zero, List.set_cons_succ]
              refine anyT_take [] (i := 8) (v := undef) rfl (by kernel_rfl) (by kernel_rfl) (by kernel_rfl) (fun _ _ _ h => h) (by kernel_rfl) (Or.inr ⟨by rfl, rfl⟩) ⟨M.out, HQ.out⟩ ?_
              try simp only [List.getElem_toArray, List.getElem_cons_succ, List.getElem_cons_zero, Act.put, List.setIfInBounds_toArray, List.set_cons_zero, List.set_cons_succ]
              refine anyT_take [] (i := 9) (v := undef) rfl (by kernel_rfl) (by kernel_rfl) (by kernel_rfl) (fun _ _ _ h => h) (by kernel_rfl) (Or.inr ⟨by rfl, rfl⟩) ⟨M.out, HQ.out⟩ ?_
              try simp only [List.getElem_toArray, List.getElem_cons_succ, List.getElem_cons_zero, Act.put, List.setIfInBounds_toArray, List.set_cons_zero, List.set_cons_succ]
              refine anyT_take [] (i := 10) (v := undef) rfl (by kernel_rfl) (by kernel_rfl) (by kernel_rfl) (fun _ _ _ h => h) (by kernel_rfl) (Or.inr ⟨by rfl, rfl⟩) ⟨M.out, HQ.out⟩ ?_
              try simp only [List.getElem_toArray, List.getElem_cons_succ, List.getElem_cons_zero, Act.put, List.setIfInBounds_toArray, List.set_cons_zero, List.set_cons_succ]
              refine anyT_take [] (i := 11) (v := undef) rfl (by kernel_rfl) (by kernel_rfl) (by kernel_rfl) (fun _ _ _ h => h) (by kernel_rfl) (Or.inr ⟨by rfl, rfl⟩) ⟨M.out, HQ.out⟩ ?_
              try simp only [List.getElem_toArray, List.getElem_cons_succ, List.getElem_cons_zero, Act.put, List.setIfInBounds_toArray, List.set_cons_zero, List.set_cons_succ]
              refine anyT_take [] (i := 12) (v := undef) rfl (by kernel_rfl) (by kernel_rfl) (by kernel_rfl) (fun _ _ _ h => h) (by kernel_rfl) (Or.inr ⟨by rfl, rfl⟩) ⟨M.out, HQ.out⟩ ?_
              try simp only [List.getElem_toArray, List.getElem_cons_succ, List.getElem_cons_zero, Act.put, List.setIfInBounds_toArray, List.set_cons_zero, List.set_cons_succ]
              refine anyT_take [] (i := 13) (v := undef) rfl (by kernel_rfl) (by kernel_rfl) (by kernel_rfl) (fun _ _ _ h => h) (by kernel_rfl) (Or.inr ⟨by rfl, rfl⟩) ⟨M.out, HQ.out⟩ ?_
              try simp only [List.getElem_toArray, List.getElem_cons_succ, List.getElem_cons_zero, Act.put, List.setIfInBounds_toArray, List.set_cons_zero, List.set_cons_succ]
              refine anyT_take [] (i := 14) (v := undef) rfl (by kernel_rfl) (by kernel_rfl) (by kernel_rfl) (fun _ _ _ h => h) (by kernel_rfl) (Or.inr ⟨by rfl, rfl⟩) ⟨M.out, HQ.out⟩ ?_
              try simp only [List.getElem_toArray, List.getElem_cons_succ, List.getElem_cons_zero, Act.put, List.setIfInBounds_toArray, List.set_cons_zero, List.set_cons_succ]
              refine anyT_take [] (i := 15) (v := undef) rfl (by kernel_rfl) (by kernel_rfl) (by kernel_rfl) (fun _ _ _ h => h) (by kernel_rfl) (Or.inr ⟨by rfl, rfl⟩) ⟨M.out, HQ.out⟩ ?_
              try simp only [List.getElem_toArray, List.getElem_cons_succ, List.getElem_cons_zero, Act.put, List.setIfInBounds_toArray, List.set_cons_zero, List.set_cons_succ]
              refine anyT_take [] (i := 16) (v := undef) rfl (by kernel_rfl) (by kernel_rfl) (by kernel_rfl) (fun _ _ _ h => h) (by kernel_rfl) (Or.inr ⟨by rfl, rfl⟩) ⟨M.out, HQ.out⟩ ?_
              try simp only [List.getElem_toArray, List.getElem_cons_succ, List.getElem_cons_zero, Act.put, List.setIfInBounds_toArray, List.set_cons_zero, List.set_cons_succ]
              refine anyT_take [] (i := 17) (v := undef) rfl (by kernel_rfl) (by kernel_rfl) (by kernel_rfl) (fun _ _ _ h => h) (by kernel_rfl) (Or.inr ⟨by rfl, rfl⟩) ⟨M.out, HQ.out⟩ ?_
              try simp only [List.getElem_toArray, List.getElem_cons_succ, List.getElem_cons_zero, Act.put, List.setIfInBounds_toArray, List.set_cons_zero, List.set_cons_succ]
              refine anyT_take [] (i := 18) (v := .bool false) rfl (by kernel_rfl) (by kernel_rfl) (by kernel_rfl) (fun _ _ _ h => h) (by kernel_rfl) (Or.inl ⟨by rfl, fun w' _ => by go_simp⟩) ⟨M.out, HQ.out⟩ ?_
              try simp only [List.getElem_toArray, List.getElem_cons_succ, List.getElem_cons_zero, Act.put, List.setIfInBounds_toArray, List.set_cons_zero, List.set_cons_succ]
              refine anyT_take [] (i := 19) (v := .bool false) rfl (by kernel_rfl) (by kernel_rfl) (by kernel_rfl) (fun _ _ _ h => h) (by kernel_rfl) (Or.inl ⟨by rfl, fun w' _ => by go_simp⟩) ⟨M.out, HQ.out⟩ ?_
              try simp only [List.getElem_toArray, List.getElem_cons_succ, List.getElem_cons_zero, Act.put, List.setIfInBounds_toArray, List.set_cons_zero, List.set_cons_succ]
              refine anyT_done (by kernel_rfl) ?_ _
              have HVC := Lib.hid (fun w he h1 h2 => HVV2.out v HMEM.out w he h1 h2)
              obtain ⟨r, hr⟩ : ∃ r, r = vvE chain l D E v := ⟨_, rfl⟩
              rw [← hr] at HVC HFK
              have HRR := Lib.hid hr
              clear hr
              cases r with
              | some x =>
                simp only [errV] at HVC
                go_wp2_with (first
                  | (refine wpList_load_rowT (by rfl) 42 (.tmp 6) rfl g6 0 rfl (parC D E) _ (rowT_range M.out.h6) Tryz.underlying42 rfl (by kernel_rfl) ?_)
                  | (refine wpList_load_rowT (by rfl) 46 (.tmp 12) rfl q 0 rfl (voC v) _ (rowT_range HQ.out) Tryz.underlying46 rfl (by rw [voC_size]; kernel_rfl) ?_)
                  | (go_at_call 21; (with_reducible refine (HVC.out _ (HE.out.below M.out.below HE.out.lt) M.out.l (M.out.sg v HMEM.out)).mono ?_); rintro e w6 ⟨rfl, hb⟩; replace M := Lib.hid (M.out.call hb); clear hb))
                go_ret
                exact ⟨by rw [HEE.out, HV0.out, fstE_hit HR.out.1 HFK.out nv hlt]; rfl, M.out.below⟩
              | none =>
                simp only [errV] at HVC
                obtain ⟨hi1, hi2⟩ := vv_idx HRR.out.symm
                obtain ⟨m, hm⟩ : ∃ m : Nat, v.val = (m : Int) := ⟨v.val.toNat, by omega⟩
                obtain ⟨y, hy⟩ : ∃ y, l[m]? = some y := ⟨l[m]'(by omega), List.getElem?_eq_getElem _⟩
                have hmI : (m : Int) < (nl : Int) := by have := HNL.out; omega
                have HM2 := Lib.hid hm
                have hvl := M.out.l
                rw [HNL.out] at hvl
                obtain ⟨lb, lo, rfl, hlb, hlr⟩ := hvl.at hy
                have HLR := Lib.hid (show lb < w5.heap.size ∧ w5.rangeAt lb (lo + m * 34) (vaC y).toList from ⟨hlb, hlr⟩)
                have HPN := Lib.hid (powV_next HVK.out hm hy)
                clear hi1 hi2 hm hy hvl hlb hlr
                go_upto_region 15 with (first
                  | (refine wpList_load_rowT (by rfl) 42 (.tmp 6) rfl g6 0 rfl (parC D E) _ (rowT_range M.out.h6) Tryz.underlying42 rfl (by kernel_rfl) ?_)
                  | (refine wpList_load_rowT (by rfl) 46 (.tmp 12) rfl q 0 rfl (voC v) _ (rowT_range HQ.out) Tryz.underlying46 rfl (by rw [voC_size]; kernel_rfl) ?_)
                  | (go_at_call 21; (with_reducible refine (HVC.out _ (HE.out.below M.out.below HE.out.lt) M.out.l (M.out.sg v HMEM.out)).mono ?_); rintro e w6 ⟨rfl, hb⟩; replace M := Lib.hid (M.out.call hb); replace HQ := Lib.hid ((hb.block _ (bkT_lt HQ.out)).trans HQ.out); replace HLR := Lib.hid (show lb < w6.heap.size ∧ w6.rangeAt lb (lo + m * 34) (vaC y).toList from ⟨Nat.lt_of_lt_of_le HLR.out.1 hb.size, rangeT_below HLR.out.2 hb HLR.out.1⟩); clear hb))
                have c35 := (vo_cells HQ.out).2.2.2.2.1
                rw [HM2.out] at c35
                have cp := va_pow HLR.out.2
                go_wp2_with (fail)
                go_roundw
                case rel => exact ⟨k + 1, wrap64 (s + y.pow), by omega, rfl, by go_num, Lib.hid ⟨by rw [fstE_next HR.out.1]; exact HFK.out, by rw [HPN.out, ← HR.out.2]⟩, M⟩
                case measure => simp [intOf]; omega
            · have HK0N := Lib.hid (show 0 < k by omega)
              obtain ⟨u, hu⟩ : ∃ u, vs[k - 1]? = some u := ⟨vs[k - 1]'(by have := HNV.out; omega), List.getElem?_eq_getElem _⟩
              have hvi := M.out.vin
              rw [HNV.out] at hvi
              obtain ⟨ab', ao', e', hab', hra'⟩ := hvi.at hu
              injection e' with e'
              injection e' with e1 e2
              subst e1 e2
              have HPR := Lib.hid (show ab < w3.heap.size ∧ w3.rangeAt ab (ao + (k - 1) * 37) (voC u).toList from ⟨hab', hra'⟩)
              have HTURN := Lib.hid (show ∀ a b : World, Below a.heap.size a b → (ab < a.heap.size ∧ a.rangeAt ab (ao + (k - 1) * 37) (voC u).toList) → (ab < b.heap.size ∧ b.rangeAt ab (ao + (k - 1) * 37) (voC u).toList) from fun a b hb h => ⟨Nat.lt_of_lt_of_le h.1 hb.size, rangeT_below h.2 hb h.1⟩)
              obtain ⟨k1, hk1⟩ : ∃ m, m = k - 1 := ⟨_, rfl⟩
              have hkk : (k : Int) - 1 = (k1 : Int) := by omega
              have hk1n : (k1 : Int) < (nv : Int) := by omega
              have HU := Lib.hid hu
              rw [← hk1] at HPR HTURN HU HNEXT
              obtain ⟨uv, huv⟩ : ∃ x, x = u.val := ⟨_, rfl⟩
              obtain ⟨xv, hxv⟩ : ∃ x, x = v.val := ⟨_, rfl⟩
              have HUV := Lib.hid (show uv = u.val ∧ xv = v.val from ⟨huv, hxv⟩)
              have HK1 := Lib.hid hk1
              clear hvi hab' hra' hu hk1 huv hxv
              by_cases hle : xv ≤ uv
              · have HF := Lib.hid (show f k = some 31 from by
                  rw [HFD.out]; unfold vcAt; rw [HVK.out]; simp only
                  rw [if_neg (fun h => by have := prev_spec (u := u) (Bool.and_eq_true _ _ |>.mp h).2 HK0N.out (by rw [← HK1.out]; exact HU.out); have := HUV.out; omega)])
                clear hk0 HNEXT
                refine wp_region_T (fun w' => VcM w g6 g7 D E c (.slice (some ⟨ab, ao, none⟩) nv qc) l (.slice la nl lc) vs w' ∧ w'.heap[q]? = some (.cells (voC v) 46 (0, 0)) ∧ ab < w'.heap.size ∧ w'.rangeAt ab (ao + k1 * 37) (voC u).toList) [0, 1, 2, 3, 4, 5, 6, 7, 8, 9, 10, 11, 12, 13, 14, 15, 16, 17, 18, 19] (by kernel_rfl) ?_
                replace M := Lib.hid (M.out.call (Below.refl _ _).drew)
                replace HQ := Lib.hid (show w3.drew.heap[q]? = some (.cells (voC v) 46 (0, 0)) from HQ.out)
                replace HPR := Lib.hid (HTURN.out _ _ (Below.refl _ _).drew HPR.out)
                generalize w3.drew = w4 at *
                refine anyT_take [] (i := 0) (v := .agg (voC v)) rfl (by kernel_rfl) (by kernel_rfl) (by kernel_rfl) (fun _ _ _ h => h) (by kernel_rfl) (rowT_yields (by rfl) 46 (.tmp 12) rfl q 0 rfl _ _ (fun _ hS => rowT_range (hS.2.1)) Tryz.underlying46 rfl (by rw [voC_size]; kernel_rfl)) ⟨M.out, HQ.out, HPR.out⟩ ?_
                try simp only [List.getElem_toArray, List.getElem_cons_succ, List.getElem_cons_zero, Act.put, List.setIfInBounds_toArray, List.set_cons_zero, List.set_cons_succ]
                refine anyT_take [] (i := 1) (v := .agg (cmC c (.slice (some ⟨ab, ao, none⟩) nv qc))) rfl (by kernel_rfl) (by kernel_rfl) (by kernel_rfl) (fun _ _ _ h => h) (by kernel_rfl) (rowT_yields (by rfl) 59 (.tmp 7) rfl g7 0 rfl _ _ (fun _ hS => rowT_range (hS.1.h7)) Tryz.underlying59 rfl (by rw [cmC_size]; kernel_rfl)) ⟨M.out, HQ.out, HPR.out⟩ ?_
                try simp only [List.getElem_toArray, List.getElem_cons_succ, List.getElem_cons_zero, Act.put, List.setIfInBounds_toArray, List.set_cons_zero, List.set_cons_succ]
                refine anyT_one (i := 2) (by kernel_rfl) rfl (fun K hK => ?_)
                rw [if_pos (by rfl)]
                try simp only [List.getElem_toArray, List.getElem_cons_succ, List.getElem_cons_zero]
                (go_simp; (with_reducible refine (HIV.out _).mono ?_); rintro e w5 ⟨rfl, hb⟩; replace M := Lib.hid (M.out.call hb); replace HQ := Lib.hid ((hb.block _ (bkT_lt HQ.out)).trans HQ.out); replace HPR := Lib.hid (HTURN.out _ _ hb HPR.out); clear hb)
                refine hK _ _ (fun _ => ⟨M.out, HQ.out, HPR.out⟩) ?_
                clear hK K
                try simp only [List.getElem_toArray, List.getElem_cons_succ, List.getElem_cons_zero, Act.put, List.setIfInBounds_toArray, List.set_cons_zero, List.set_cons_succ]
                refine anyT_take [] (i := 3) (v := .bool false) rfl (by kernel_rfl) (by kernel_rfl) (by kernel_rfl) (fun _ _ _ h => h) (by kernel_rfl) (Or.inl ⟨by rfl, fun w' _ => by go_simp⟩) ⟨M.out, HQ.out, HPR.out⟩ ?_
                try simp only [List.getElem_toArray, List.getElem_cons_succ, List.getElem_cons_zero, Act.put, List.setIfInBounds_toArray, List.set_cons_zero, List.set_cons_succ]
                refine anyT_take [] (i := 4) (v := .bool false) rfl (by kernel_rfl) (by kernel_rfl) (by kernel_rfl) (fun _ _ _ h => h) (by kernel_rfl) (Or.inl ⟨by rfl, fun w' _ => by go_simp⟩) ⟨M.out, HQ.out, HPR.out⟩ ?_
                try simp only [List.getElem_toArray, List.getElem_cons_succ, List.getElem_cons_zero, Act.put, List.setIfInBounds_toArray, List.set_cons_zero, List.set_cons_succ]
                refine anyT_take [] (i := 5) (v := .int .i64 (k : Int)) rfl (by kernel_rfl) (by kernel_rfl) (by kernel_rfl) (fun _ _ _ h => h) (by kernel_rfl) (Or.inl ⟨by rfl, fun w' _ => by go_simp⟩) ⟨M.out, HQ.out, HPR.out⟩ ?_
                try simp only [List.getElem_toArray, List.getElem_cons_succ, List.getElem_cons_zero, Act.put, List.setIfInBounds_toArray, List.set_cons_zero, List.set_cons_succ]
                refine anyT_take [] (i := 6) (v := .bool true) rfl (by kernel_rfl) (by kernel_rfl) (by kernel_rfl) (fun _ _ _ h => h) (by kernel_rfl) (Or.inl ⟨by rfl, fun w' _ => by go_simp; exact HK0N.out⟩) ⟨M.out, HQ.out, HPR.out⟩ ?_
                try simp only [List.getElem_toArray, List.getElem_cons_succ, List.getElem_cons_zero, Act.put, List.setIfInBounds_toArray, List.set_cons_zero, List.set_cons_succ]
                refine anyT_take [] (i := 7) (v := .bool true) rfl (by kernel_rfl) (by kernel_rfl) (by kernel_rfl) (fun _ _ _ h => h) (by kernel_rfl) (Or.inl ⟨by rfl, fun w' _ => by go_simp⟩) ⟨M.out, HQ.out, HPR.out⟩ ?_
                try simp only [List.getElem_toArray, List.getElem_cons_succ, List.getElem_cons_zero, Act.put, List.setIfInBounds_toArray, List.set_cons_zero, List.set_cons_succ]
                refine anyT_take [] (i := 8) (v := .pointer (some ⟨q, 35, none⟩)) rfl (by kernel_rfl) (by kernel_rfl) (by kernel_rfl) (fun _ _ _ h => h) (by kernel_rfl) (Or.inl ⟨by rfl, fun w' _ => by go_simp⟩) ⟨M.out, HQ.out, HPR.out⟩ ?_
                try simp only [List.getElem_toArray, List.getElem_cons_succ, List.getElem_cons_zero, Act.put, List.setIfInBounds_toArray, List.set_cons_zero, List.set_cons_succ]
                refine anyT_take [] (i := 9) (v := .int .i64 xv) rfl (by kernel_rfl) (by kernel_rfl) (by kernel_rfl) (fun _ _ _ h => h) (by kernel_rfl) (Or.inl ⟨by rfl, fun w' hS => by have c := (vo_cells (hS.2.1)).2.2.2.2.1; rw [← HUV.out.2] at c; go_simp⟩) ⟨M.out, HQ.out, HPR.out⟩ ?_
                try simp only [List.getElem_toArray, List.getElem_cons_succ, List.getElem_cons_zero, Act.put, List.setIfInBounds_toArray, List.set_cons_zero, List.set_cons_succ]
                refine anyT_take [] (i := 10) (v := .pointer (some ⟨g7, 34, none⟩)) rfl (by kernel_rfl) (by kernel_rfl) (by kernel_rfl) (fun _ _ _ h => h) (by kernel_rfl) (Or.inl ⟨by rfl, fun w' _ => by go_simp⟩) ⟨M.out, HQ.out, HPR.out⟩ ?_
                try simp only [List.getElem_toArray, List.getElem_cons_succ, List.getElem_cons_zero, Act.put, List.setIfInBounds_toArray, List.set_cons_zero, List.set_cons_succ]
                refine anyT_take [] (i := 11) (v := .slice (some ⟨ab, ao, none⟩) nv qc) rfl (by kernel_rfl) (by kernel_rfl) (by kernel_rfl) (fun _ _ _ h => h) (by kernel_rfl) (Or.inl ⟨by rfl, fun w' hS => by have c := (cm_cells (hS.1.h7)).2.2.2; go_simp⟩) ⟨M.out, HQ.out, HPR.out⟩ ?_
                try simp only [List.getElem_toArray, List.getElem_cons_succ, List.getElem_cons_zero, Act.put, List.setIfInBounds_toArray, List.set_cons_zero, List.set_cons_succ]
                refine anyT_take [] (i := 12) (v := .int .i64 (k : Int)) rfl (by kernel_rfl) (by kernel_rfl) (by kernel_rfl) (fun _ _ _ h => h) (by kernel_rfl) (Or.inl ⟨by rfl, fun w' _ => by go_simp⟩) ⟨M.out, HQ.out, HPR.out⟩ ?_
                try simp only [List.getElem_toArray, List.getElem_cons_succ, List.getElem_cons_zero, Act.put, List.setIfInBounds_toArray, List.set_cons_zero, List.set_cons_succ]
                refine anyT_take [] (i := 13) (v := .int .i64 (k1 : Int)) rfl (by kernel_rfl) (by kernel_rfl) (by kernel_rfl) (fun _ _ _ h => h) (by kernel_rfl) (Or.inl ⟨by rfl, fun w' _ => by go_simp; exact IntWalk.i64_in _ (by omega)⟩) ⟨M.out, HQ.out, HPR.out⟩ ?_
                try simp only [List.getElem_toArray, List.getElem_cons_succ, List.getElem_cons_zero, Act.put, List.setIfInBounds_toArray, List.set_cons_zero, List.set_cons_succ]
                refine anyT_take [] (i := 14) (v := .pointer (some ⟨ab, ao + k1 * 37, none⟩)) rfl (by kernel_rfl) (by kernel_rfl) (by kernel_rfl) (fun _ _ _ h => h) (by kernel_rfl) (Or.inl ⟨by rfl, fun w' _ => by go_simp⟩) ⟨M.out, HQ.out, HPR.out⟩ ?_
                try simp only [List.getElem_toArray, List.getElem_cons_succ, List.getElem_cons_zero, Act.put, List.setIfInBounds_toArray, List.set_cons_zero, List.set_cons_succ]
                refine anyT_take [] (i := 15) (v := .pointer (some ⟨ab, ao + k1 * 37 + 35, none⟩)) rfl (by kernel_rfl) (by kernel_rfl) (by kernel_rfl) (fun _ _ _ h => h) (by kernel_rfl) (Or.inl ⟨by rfl, fun w' _ => by go_simp⟩) ⟨M.out, HQ.out, HPR.out⟩ ?_
                try simp only [List.getElem_toArray, List.getElem_cons_succ, List.getElem_cons_zero, Act.put, List.setIfInBounds_toArray, List.set_cons_zero, List.set_cons_succ]
                refine anyT_take [] (i := 16) (v := .int .i64 uv) rfl (by kernel_rfl) (by kernel_rfl) (by kernel_rfl) (fun _ _ _ h => h) (by kernel_rfl) (Or.inl ⟨by rfl, fun w' hS => by have c := vo_val hS.2.2.2; rw [← HUV.out.1] at c; go_simp⟩) ⟨M.out, HQ.out, HPR.out⟩ ?_
                try simp only [List.getElem_toArray, List.getElem_cons_succ, List.getElem_cons_zero, Act.put, List.setIfInBounds_toArray, List.set_cons_zero, List.set_cons_succ]
                refine anyT_take [] (i := 17) (v := .bool true) rfl (by kernel_rfl) (by kernel_rfl) (by kernel_rfl) (fun _ _ _ h => h) (by kernel_rfl) (Or.inl ⟨by rfl, fun w' _ => by go_simp⟩) ⟨M.out, HQ.out, HPR.out⟩ ?_
                try simp only [List.getElem_toArray, List.getElem_cons_succ, List.getElem_cons_zero, Act.put, List.setIfInBounds_toArray, List.set_cons_zero, List.set_cons_succ]
                refine anyT_take [] (i := 18) (v := .bool true) rfl (by kernel_rfl) (by kernel_rfl) (by kernel_rfl) (fun _ _ _ h => h) (by kernel_rfl) (Or.inl ⟨by rfl, fun w' _ => by go_simp⟩) ⟨M.out, HQ.out, HPR.out⟩ ?_
                try simp only [List.getElem_toArray, List.getElem_cons_succ, List.getElem_cons_zero, Act.put, List.setIfInBounds_toArray, List.set_cons_zero, List.set_cons_succ]
                refine anyT_take [] (i := 19) (v := .bool true) rfl (by kernel_rfl) (by kernel_rfl) (by kernel_rfl) (fun _ _ _ h => h) (by kernel_rfl) (Or.inl ⟨by rfl, fun w' _ => by go_simp⟩) ⟨M.out, HQ.out, HPR.out⟩ ?_
                try simp only [List.getElem_toArray, List.getElem_cons_succ, List.getElem_cons_zero, Act.put, List.setIfInBounds_toArray, List.set_cons_zero, List.set_cons_succ]
                refine anyT_done (by kernel_rfl) ?_ _
                go_wp2_with (fail)
                go_ret
                exact ⟨by rw [HEE.out, HV0.out, fstE_hit HR.out.1 HF.out nv hlt]; rfl, M.out.below⟩
              · have HFK := Lib.hid (HNEXT.out (fun u' h hu' => by rw [HU.out] at hu'; injection hu' with hu'; rw [← hu']; have := HUV.out; omega))
                clear hk0 HNEXT
                refine wp_region_T (fun w' => VcM w g6 g7 D E c (.slice (some ⟨ab, ao, none⟩) nv qc) l (.slice la nl lc) vs w' ∧ w'.heap[q]? = some (.cells (voC v) 46 (0, 0)) ∧ ab < w'.heap.size ∧ w'.rangeAt ab (ao + k1 * 37) (voC u).toList) [0, 1, 2, 3, 4, 5, 6, 7, 8, 9, 10, 11, 12, 13, 14, 15, 16, 17, 18, 19] (by kernel_rfl) ?_
                replace M := Lib.hid (M.out.call (Below.refl _ _).drew)
                replace HQ := Lib.hid (show w3.drew.heap[q]? = some (.cells (voC v) 46 (0, 0)) from HQ.out)
                replace HPR := Lib.hid (HTURN.out _ _ (Below.refl _ _).drew HPR.out)
                generalize w3.drew = w4 at *
                refine anyT_take [] (i := 0) (v := .agg (voC v)) rfl (by kernel_rfl) (by kernel_rfl) (by kernel_rfl) (fun _ _ _ h => h) (by kernel_rfl) (rowT_yields (by rfl) 46 (.tmp 12) rfl q 0 rfl _ _ (fun _ hS => rowT_range (hS.2.1)) Tryz.underlying46 rfl (by rw [voC_size]; kernel_rfl)) ⟨M.out, HQ.out, HPR.out⟩ ?_
                try simp only [List.getElem_toArray, List.getElem_cons_succ, List.getElem_cons_zero, Act.put, List.setIfInBounds_toArray, List.set_cons_zero, List.set_cons_succ]
                refine anyT_take [] (i := 1) (v := .agg (cmC c (.slice (some ⟨ab, ao, none⟩) nv qc))) rfl (by kernel_rfl) (by kernel_rfl) (by kernel_rfl) (fun _ _ _ h => h) (by kernel_rfl) (rowT_yields (by rfl) 59 (.tmp 7) rfl g7 0 rfl _ _ (fun _ hS => rowT_range (hS.1.h7)) Tryz.underlying59 rfl (by rw [cmC_size]; kernel_rfl)) ⟨M.out, HQ.out, HPR.out⟩ ?_
                try simp only [List.getElem_toArray, List.getElem_cons_succ, List.getElem_cons_zero, Act.put, List.setIfInBounds_toArray, List.set_cons_zero, List.set_cons_succ]
                refine anyT_one (i := 2) (by kernel_rfl) rfl (fun K hK => ?_)
                rw [if_pos (by rfl)]
                try simp only [List.getElem_toArray, List.getElem_cons_succ, List.getElem_cons_zero]
                (go_simp; (with_reducible refine (HIV.out _).mono ?_); rintro e w5 ⟨rfl, hb⟩; replace M := Lib.hid (M.out.call hb); replace HQ := Lib.hid ((hb.block _ (bkT_lt HQ.out)).trans HQ.out); replace HPR := Lib.hid (HTURN.out _ _ hb HPR.out); clear hb)
                refine hK _ _ (fun _ => ⟨M.out, HQ.out, HPR.out⟩) ?_
                clear hK K
                try simp only [List.getElem_toArray, List.getElem_cons_succ, List.getElem_cons_zero, Act.put, List.setIfInBounds_toArray, List.set_cons_zero, List.set_cons_succ]
                refine anyT_take [] (i := 3) (v := .bool false) rfl (by kernel_rfl) (by kernel_rfl) (by kernel_rfl) (fun _ _ _ h => h) (by kernel_rfl) (Or.inl ⟨by rfl, fun w' _ => by go_simp⟩) ⟨M.out, HQ.out, HPR.out⟩ ?_
                try simp only [List.getElem_toArray, List.getElem_cons_succ, List.getElem_cons_zero, Act.put, List.setIfInBounds_toArray, List.set_cons_zero, List.set_cons_succ]
                refine anyT_take [] (i := 4) (v := .bool false) rfl (by kernel_rfl) (by kernel_rfl) (by kernel_rfl) (fun _ _ _ h => h) (by kernel_rfl) (Or.inl ⟨by rfl, fun w' _ => by go_simp⟩) ⟨M.out, HQ.out, HPR.out⟩ ?_
                try simp only [List.getElem_toArray, List.getElem_cons_succ, List.getElem_cons_zero, Act.put, List.setIfInBounds_toArray, List.set_cons_zero, List.set_cons_succ]
                refine anyT_take [] (i := 5) (v := .int .i64 (k : Int)) rfl (by kernel_rfl) (by kernel_rfl) (by kernel_rfl) (fun _ _ _ h => h) (by kernel_rfl) (Or.inl ⟨by rfl, fun w' _ => by go_simp⟩) ⟨M.out, HQ.out, HPR.out⟩ ?_
                try simp only [List.getElem_toArray, List.getElem_cons_succ, List.getElem_cons_zero, Act.put, List.setIfInBounds_toArray, List.set_cons_zero, List.set_cons_succ]
                refine anyT_take [] (i := 6) (v := .bool true) rfl (by kernel_rfl) (by kernel_rfl) (by kernel_rfl) (fun _ _ _ h => h) (by kernel_rfl) (Or.inl ⟨by rfl, fun w' _ => by go_simp; exact HK0N.out⟩) ⟨M.out, HQ.out, HPR.out⟩ ?_
                try simp only [List.getElem_toArray, List.getElem_cons_succ, List.getElem_cons_zero, Act.put, List.setIfInBounds_toArray, List.set_cons_zero, List.set_cons_succ]
                refine anyT_take [] (i := 7) (v := .bool true) rfl (by kernel_rfl) (by kernel_rfl) (by kernel_rfl) (fun _ _ _ h => h) (by kernel_rfl) (Or.inl ⟨by rfl, fun w' _ => by go_simp⟩) ⟨M.out, HQ.out, HPR.out⟩ ?_
                try simp only [List.getElem_toArray, List.getElem_cons_succ, List.getElem_cons_zero, Act.put, List.setIfInBounds_toArray, List.set_cons_zero, List.set_cons_succ]
                refine anyT_take [] (i := 8) (v := .pointer (some ⟨q, 35, none⟩)) rfl (by kernel_rfl) (by kernel_rfl) (by kernel_rfl) (fun _ _ _ h => h) (by kernel_rfl) (Or.inl ⟨by rfl, fun w' _ => by go_simp⟩) ⟨M.out, HQ.out, HPR.out⟩ ?_
                try simp only [List.getElem_toArray, List.getElem_cons_succ, List.getElem_cons_zero, Act.put, List.setIfInBounds_toArray, List.set_cons_zero, List.set_cons_succ]
                refine anyT_take [] (i := 9) (v := .int .i64 xv) rfl (by kernel_rfl) (by kernel_rfl) (by kernel_rfl) (fun _ _ _ h => h) (by kernel_rfl) (Or.inl ⟨by rfl, fun w' hS => by have c := (vo_cells (hS.2.1)).2.2.2.2.1; rw [← HUV.out.2] at c; go_simp⟩) ⟨M.out, HQ.out, HPR.out⟩ ?_
                try simp only [List.getElem_toArray, List.getElem_cons_succ, List.getElem_cons_zero, Act.put, List.setIfInBounds_toArray, List.set_cons_zero, List.set_cons_succ]
                refine anyT_take [] (i := 10) (v := .pointer (some ⟨g7, 34, none⟩)) rfl (by kernel_rfl) (by kernel_rfl) (by kernel_rfl) (fun _ _ _ h => h) (by kernel_rfl) (Or.inl ⟨by rfl, fun w' _ => by go_simp⟩) ⟨M.out, HQ.out, HPR.out⟩ ?_
                try simp only [List.getElem_toArray, List.getElem_cons_succ, List.getElem_cons_zero, Act.put, List.setIfInBounds_toArray, List.set_cons_zero, List.set_cons_succ]
                refine anyT_take [] (i := 11) (v := .slice (some ⟨ab, ao, none⟩) nv qc) rfl (by kernel_rfl) (by kernel_rfl) (by kernel_rfl) (fun _ _ _ h => h) (by kernel_rfl) (Or.inl ⟨by rfl, fun w' hS => by have c := (cm_cells (hS.1.h7)).2.2.2; go_simp⟩) ⟨M.out, HQ.out, HPR.out⟩ ?_
                try simp only [List.getElem_toArray, List.getElem_cons_succ, List.getElem_cons_zero, Act.put, List.setIfInBounds_toArray, List.set_cons_zero, List.set_cons_succ]
                refine anyT_take [] (i := 12) (v := .int .i64 (k : Int)) rfl (by kernel_rfl) (by kernel_rfl) (by kernel_rfl) (fun _ _ _ h => h) (by kernel_rfl) (Or.inl ⟨by rfl, fun w' _ => by go_simp⟩) ⟨M.out, HQ.out, HPR.out⟩ ?_
                try simp only [List.getElem_toArray, List.getElem_cons_succ, List.getElem_cons_zero, Act.put, List.setIfInBounds_toArray, List.set_cons_zero, List.set_cons_succ]
                refine anyT_take [] (i := 13) (v := .int .i64 (k1 : Int)) rfl (by kernel_rfl) (by kernel_rfl) (by kernel_rfl) (fun _ _ _ h => h) (by kernel_rfl) (Or.inl ⟨by rfl, fun w' _ => by go_simp; exact IntWalk.i64_in _ (by omega)⟩) ⟨M.out, HQ.out, HPR.out⟩ ?_
                try simp only [List.getElem_toArray, List.getElem_cons_succ, List.getElem_cons_zero, Act.put, List.setIfInBounds_toArray, List.set_cons_zero, List.set_cons_succ]
                refine anyT_take [] (i := 14) (v := .pointer (some ⟨ab, ao + k1 * 37, none⟩)) rfl (by kernel_rfl) (by kernel_rfl) (by kernel_rfl) (fun _ _ _ h => h) (by kernel_rfl) (Or.inl ⟨by rfl, fun w' _ => by go_simp⟩) ⟨M.out, HQ.out, HPR.out⟩ ?_
                try simp only [List.getElem_toArray, List.getElem_cons_succ, List.getElem_cons_zero, Act.put, List.setIfInBounds_toArray, List.set_cons_zero, List.set_cons_succ]
                refine anyT_take [] (i := 15) (v := .pointer (some ⟨ab, ao + k1 * 37 + 35, none⟩)) rfl (by kernel_rfl) (by kernel_rfl) (by kernel_rfl) (fun _ _ _ h => h) (by kernel_rfl) (Or.inl ⟨by rfl, fun w' _ => by go_simp⟩) ⟨M.out, HQ.out, HPR.out⟩ ?_
                try simp only [List.getElem_toArray, List.getElem_cons_succ, List.getElem_cons_zero, Act.put, List.setIfInBounds_toArray, List.set_cons_zero, List.set_cons_succ]
                refine anyT_take [] (i := 16) (v := .int .i64 uv) rfl (by kernel_rfl) (by kernel_rfl) (by kernel_rfl) (fun _ _ _ h => h) (by kernel_rfl) (Or.inl ⟨by rfl, fun w' hS => by have c := vo_val hS.2.2.2; rw [← HUV.out.1] at c; go_simp⟩) ⟨M.out, HQ.out, HPR.out⟩ ?_
                try simp only [List.getElem_toArray, List.getElem_cons_succ, List.getElem_cons_zero, Act.put, List.setIfInBounds_toArray, List.set_cons_zero, List.set_cons_succ]
                refine anyT_take [] (i := 17) (v := .bool false) rfl (by kernel_rfl) (by kernel_rfl) (by kernel_rfl) (fun _ _ _ h => h) (by kernel_rfl) (Or.inl ⟨by rfl, fun w' _ => by go_simp⟩) ⟨M.out, HQ.out, HPR.out⟩ ?_
                try simp only [List.getElem_toArray, List.getElem_cons_succ, List.getElem_cons_zero, Act.put, List.setIfInBounds_toArray, List.set_cons_zero, List.set_cons_succ]
                refine anyT_take [] (i := 18) (v := .bool false) rfl (by kernel_rfl) (by kernel_rfl) (by kernel_rfl) (fun _ _ _ h => h) (by kernel_rfl) (Or.inl ⟨by rfl, fun w' _ => by go_simp⟩) ⟨M.out, HQ.out, HPR.out⟩ ?_
                try simp only [List.getElem_toArray, List.getElem_cons_succ, List.getElem_cons_zero, Act.put, List.setIfInBounds_toArray, List.set_cons_zero, List.set_cons_succ]
                refine anyT_take [] (i := 19) (v := .bool false) rfl (by kernel_rfl) (by kernel_rfl) (by kernel_rfl) (fun _ _ _ h => h) (by kernel_rfl) (Or.inl ⟨by rfl, fun w' _ => by go_simp⟩) ⟨M.out, HQ.out, HPR.out⟩ ?_
                try simp only [List.getElem_toArray, List.getElem_cons_succ, List.getElem_cons_zero, Act.put, List.setIfInBounds_toArray, List.set_cons_zero, List.set_cons_succ]
                refine anyT_done (by kernel_rfl) ?_ _
                have HVC := Lib.hid (fun w he h1 h2 => HVV2.out v HMEM.out w he h1 h2)
                obtain ⟨r, hr⟩ : ∃ r, r = vvE chain l D E v := ⟨_, rfl⟩
                rw [← hr] at HVC HFK
                have HRR := Lib.hid hr
                clear hr
                cases r with
                | some x =>
                  simp only [errV] at HVC
                  go_wp2_with (first
                    | (refine wpList_load_rowT (by rfl) 42 (.tmp 6) rfl g6 0 rfl (parC D E) _ (rowT_range M.out.h6) Tryz.underlying42 rfl (by kernel_rfl) ?_)
                    | (refine wpList_load_rowT (by rfl) 46 (.tmp 12) rfl q 0 rfl (voC v) _ (rowT_range HQ.out) Tryz.underlying46 rfl (by rw [voC_size]; kernel_rfl) ?_)
                    | (go_at_call 21; (with_reducible refine (HVC.out _ (HE.out.below M.out.below HE.out.lt) M.out.l (M.out.sg v HMEM.out)).mono ?_); rintro e w6 ⟨rfl, hb⟩; replace M := Lib.hid (M.out.call hb); clear hb))
                  go_ret
                  exact ⟨by rw [HEE.out, HV0.out, fstE_hit HR.out.1 HFK.out nv hlt]; rfl, M.out.below⟩
                | none =>
                  simp only [errV] at HVC
                  obtain ⟨hi1, hi2⟩ := vv_idx HRR.out.symm
                  obtain ⟨m, hm⟩ : ∃ m : Nat, v.val = (m : Int) := ⟨v.val.toNat, by omega⟩
                  obtain ⟨y, hy⟩ : ∃ y, l[m]? = some y := ⟨l[m]'(by omega), List.getElem?_eq_getElem _⟩
                  have hmI : (m : Int) < (nl : Int) := by have := HNL.out; omega
                  have HM2 := Lib.hid hm
                  have hvl := M.out.l
                  rw [HNL.out] at hvl
                  obtain ⟨lb, lo, rfl, hlb, hlr⟩ := hvl.at hy
                  have HLR := Lib.hid (show lb < w5.heap.size ∧ w5.rangeAt lb (lo + m * 34) (vaC y).toList from ⟨hlb, hlr⟩)
                  have HPN := Lib.hid (powV_next HVK.out hm hy)
                  clear hi1 hi2 hm hy hvl hlb hlr
                  go_upto_region 15 with (first
                    | (refine wpList_load_rowT (by rfl) 42 (.tmp 6) rfl g6 0 rfl (parC D E) _ (rowT_range M.out.h6) Tryz.underlying42 rfl (by kernel_rfl) ?_)
                    | (refine wpList_load_rowT (by rfl) 46 (.tmp 12) rfl q 0 rfl (voC v) _ (rowT_range HQ.out) Tryz.underlying46 rfl (by rw [voC_size]; kernel_rfl) ?_)
                    | (go_at_call 21; (with_reducible refine (HVC.out _ (HE.out.below M.out.below HE.out.lt) M.out.l (M.out.sg v HMEM.out)).mono ?_); rintro e w6 ⟨rfl, hb⟩; replace M := Lib.hid (M.out.call hb); replace HQ := Lib.hid ((hb.block _ (bkT_lt HQ.out)).trans HQ.out); replace HLR := Lib.hid (show lb < w6.heap.size ∧ w6.rangeAt lb (lo + m * 34) (vaC y).toList from ⟨Nat.lt_of_lt_of_le HLR.out.1 hb.size, rangeT_below HLR.out.2 hb HLR.out.1⟩); clear hb))
                  have c35 := (vo_cells HQ.out).2.2.2.2.1
                  rw [HM2.out] at c35
                  have cp := va_pow HLR.out.2
                  go_wp2_with (fail)
                  go_roundw
                  case rel => exact ⟨k + 1, wrap64 (s + y.pow), by omega, rfl, by go_num, Lib.hid ⟨by rw [fstE_next HR.out.1]; exact HFK.out, by rw [HPN.out, ← HR.out.2]⟩, M⟩
                  case measure => simp [intOf]; omega
        · obtain rfl : k = nv := by omega
          have HF := Lib.hid (show vcE chain l D E c vs = if twoB s (totV l) = true then none else some 32 from by rw [HV0.out, HR.out.1, HR.out.2])
          have M := HM
          clear HM HR HV0
          cases htw : twoB s (totV l) with
          | true =>
            rw [htw] at HF
            have HTT := Lib.hid (fun w => by have := HTW.out s (totV l) w; rw [htw] at this; exact this)
            clear htw
            go_wp2_with (first
              | (go_at_call 13; (with_reducible refine (HTO.out _ M.out.l).mono ?_); rintro e w3 ⟨rfl, hb⟩; replace M := Lib.hid (M.out.call hb); clear hb)
              | (go_at_call 113; (with_reducible refine (HTT.out _).mono ?_); rintro e w4 ⟨rfl, rfl⟩))
            go_ret
            exact ⟨by rw [HEE.out, HF.out]; rfl, M.out.below⟩
          | false =>
            rw [htw] at HF
            have HTT := Lib.hid (fun w => by have := HTW.out s (totV l) w; rw [htw] at this; exact this)
            clear htw
            go_wp2_with (first
              | (go_at_call 13; (with_reducible refine (HTO.out _ M.out.l).mono ?_); rintro e w3 ⟨rfl, hb⟩; replace M := Lib.hid (M.out.call hb); clear hb)
              | (go_at_call 113; (with_reducible refine (HTT.out _).mono ?_); rintro e w4 ⟨rfl, rfl⟩))
            go_ret
            exact ⟨by rw [HEE.out, HF.out]; rfl, M.out.below⟩
end Go.Proofs.YtjnpcmfpiejmjaaGreatDoor

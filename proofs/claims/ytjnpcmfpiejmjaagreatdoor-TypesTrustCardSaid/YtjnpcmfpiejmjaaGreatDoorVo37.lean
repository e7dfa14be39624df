/- Part 37 of the proof. -/
import Derived.Great.BuildSlice
import Derived.Test.YtjnpcmfpiejmjaaGreatDoorVo29
import Derived.Test.YtjnpcmfpiejmjaaGreatDoorVo36
namespace Go.Proofs.YtjnpcmfpiejmjaaGreatDoor
set_option linter.unusedVariables false
set_option linter.unusedSimpArgs false
open Go.RowKit
set_option maxRecDepth 100000
set_option linter.unusedSimpArgs false
set_option linter.unusedVariables false
structure TwM (w0 : World) (g7 g8 g9 : Nat) (D E : Int) (CA CB : Array Value) (a b : Vo) (l : List Va) (lv : Value) (w : World) : Prop where
  below : Below w0.heap.size w0 w
  h7 : w.heap[g7]? = some (.cells (parC D E) 42 (0, 0))
  h8 : w.heap[g8]? = some (.cells CA 46 (0, 0))
  h9 : w.heap[g9]? = some (.cells CB 46 (0, 0))
  l : VaIn w lv l
  sa : BytesIn w a.sv a.sign
  sb : BytesIn w b.sv b.sign
theorem TwM.call {w0 w w' : World} {g7 g8 g9 : Nat} {D E : Int} {CA CB : Array Value} {a b : Vo} {l : List Va} {lv : Value} (m : TwM w0 g7 g8 g9 D E CA CB a b l lv w) (hb : Below w.heap.size w w') : TwM w0 g7 g8 g9 D E CA CB a b l lv w' :=
  ⟨m.below.trans (hb.mono m.below.size), (hb.block _ (bkT_lt m.h7)).trans m.h7, (hb.block _ (bkT_lt m.h8)).trans m.h8, (hb.block _ (bkT_lt m.h9)).trans m.h9, m.l.below hb, m.sa.below hb, m.sb.below hb⟩
theorem slotE_no {a b : Vo} (h : sameSl a b = false) : slotE a b = some 31 := by unfold slotE; rw [if_neg (fun h2 => by rw [h] at h2; exact absurd h2.1 (by simp))]
theorem slotE_eq {a b : Vo} (h : eqB a.blk b.blk = true) : slotE a b = some 31 := by unfold slotE; rw [if_neg (fun h2 => by rw [h] at h2; exact absurd h2.2 (by simp))]
theorem slotE_ok {a b : Vo} (h1 : sameSl a b = true) (h2 : eqB a.blk b.blk = false) : slotE a b = none := by unfold slotE; rw [if_pos ⟨h1, h2⟩]

theorem vvE_pos {chain : ByteArray} {l : List Va} {D E : Int} {v : Vo} {x : Nat} (h : vvE chain l D E v = some x) : 0 < x := by
  unfold vvE at h
  split at h
  · split at h
    · split at h
      · cases h
      · cases h; omega
    · cases h; omega
  · cases h; omega
set_option maxHeartbeats 16000000 in
theorem ttwo_any (chain : ByteArray) (l : List Va) (lv : Value) (D E : Int) (a b : Vo) (w : World) (he : Env w) (hl : VaIn w lv l) (hsa : BytesIn w a.sv a.sign) (hsb : BytesIn w b.sv b.sign) (hc : chain.size ≤ 140737488351232) (hva : VoOk a) (hvb : VoOk b) (hba : bytesOk a.sign) (hbb : bytesOk b.sign) (hza : a.sign.length ≤ 140737488351232) (hzb : b.sign.length ≤ 140737488351232) :
    Calls Tryz.prog 23 #[.string chain, lv, .agg (parC D E), .agg (voC a), .agg (voC b)] w fun e w' => e = .returned (errV (twoE chain l D E a b)) ∧ Below w.heap.size w w' := by
  obtain ⟨la, lc, rfl, -, hlm⟩ := hl.len
  have hn : l.length ≤ 9223372036854775807 := by unfold maxLen at hlm; omega
  have HSA := Lib.hid (show ∃ x n c, a.sv = .slice x n c from by obtain ⟨x, c, e, -⟩ := hsa; exact ⟨_, _, _, e⟩)
  have HSB := Lib.hid (show ∃ x n c, b.sv = .slice x n c from by obtain ⟨x, c, e, -⟩ := hsb; exact ⟨_, _, _, e⟩)
  have hb1 := below_alloc w (.cells (parC D E) 42)
  have hb2 := below_alloc (w.alloc (.cells (parC D E) 42)) (.cells (voC a) 46)
  have hb3 := below_alloc ((w.alloc (.cells (parC D E) 42)).alloc (.cells (voC a) 46)) (.cells (voC b) 46)
  have h8 := heap_alloc_new (w.alloc (.cells (parC D E) 42)) (.cells (voC a) 46)
  have h9 := heap_alloc_new ((w.alloc (.cells (parC D E) 42)).alloc (.cells (voC a) 46)) (.cells (voC b) 46)
  rw [size_alloc] at h8 h9
  rw [size_alloc] at h9
  have M := Lib.hid (show TwM w w.heap.size (w.heap.size + 1) (w.heap.size + 1 + 1) D E (voC a) (voC b) a b l (.slice la l.length lc) (((w.alloc (.cells (parC D E) 42)).alloc (.cells (voC a) 46)).alloc (.cells (voC b) 46)) from
    ⟨(hb1.trans (hb2.mono (by simp))).trans (hb3.mono (by simp; omega)), (hb3.block _ (by simp; omega)).trans ((hb2.block _ (by simp)).trans (heap_alloc_new w _)), (hb3.block _ (by simp)).trans h8, h9, ((hl.below hb1).below hb2).below hb3, ((hsa.below hb1).below hb2).below hb3, ((hsb.below hb1).below hb2).below hb3⟩)
  have HE := Lib.hid he
  clear he
  have HVA := Lib.hid (show ∀ w, Env w → VaIn w (.slice la l.length lc) l → BytesIn w a.sv a.sign → Calls Tryz.prog 21 #[.string chain, .slice la l.length lc, .agg (parC D E), .agg (voC a)] w fun e w' => e = .returned (errV (vvE chain l D E a)) ∧ Below w.heap.size w w' from fun w he h1 h2 => vvote_any chain l _ D E a w he h1 h2 hc hva hba (Nat.le_trans hza (by omega)) hn)
  have HVB := Lib.hid (show ∀ w, Env w → VaIn w (.slice la l.length lc) l → BytesIn w b.sv b.sign → Calls Tryz.prog 21 #[.string chain, .slice la l.length lc, .agg (parC D E), .agg (voC b)] w fun e w' => e = .returned (errV (vvE chain l D E b)) ∧ Below w.heap.size w w' from fun w he h1 h2 => vvote_any chain l _ D E b w he h1 h2 hc hvb hbb (Nat.le_trans hzb (by omega)) hn)
  have HSS := Lib.hid (fun w => sameslot_any a b w)
  obtain ⟨r1, hr1⟩ : ∃ r, r = vvE chain l D E a := ⟨_, rfl⟩
  obtain ⟨r2, hr2⟩ : ∃ r, r = vvE chain l D E b := ⟨_, rfl⟩
  have HT := Lib.hid (show twoE chain l D E a b = twoM r1 r2 (slotE a b) from by rw [hr1, hr2]; rfl)
  have HP1 := Lib.hid (show ∀ x, r1 = some x → 0 < x from fun x e => vvE_pos (hr1 ▸ e))
  have HP2 := Lib.hid (show ∀ x, r2 = some x → 0 < x from fun x e => vvE_pos (hr2 ▸ e))
  rw [← hr1] at HVA
  rw [← hr2] at HVB
  obtain ⟨nl, hnl⟩ : ∃ n, n = l.length := ⟨_, rfl⟩
  rw [← hnl] at M hn HVA HVB ⊢
  obtain ⟨E1, hE1⟩ : ∃ E1, E1 = twoE chain l D E a b := ⟨_, rfl⟩
  have HEE := Lib.hid (hE1.trans HT.out)
  rw [← hE1]
  clear hb1 hb2 hb3 h8 h9 hl hsa hsb hc hva hvb hba hbb hza hzb hE1 hnl hr1 hr2 hlm HT
  have i0 := vo2_first a b
  have i1 := vo2_second a b
  have HBU := Lib.hid (vo2_built a b)
  have HZA := Lib.hid (voC_size a)
  have HZB := Lib.hid (voC_size b)
  have HOA := Lib.hid (voC_one a HSA.out)
  have HOB := Lib.hid (voC_one b HSB.out)
  have HKA := Lib.hid (fun (w : World) (g : Nat) (h : w.heap[g]? = some (.cells (voC a) 46 (0, 0))) => (vo_cells h).2.2.2.1)
  have HKB := Lib.hid (fun (w : World) (g : Nat) (h : w.heap[g]? = some (.cells (voC b) 46 (0, 0))) => (vo_cells h).2.2.2.1)
  obtain ⟨CA, hCA⟩ : ∃ x, x = voC a := ⟨_, rfl⟩
  obtain ⟨CB, hCB⟩ : ∃ x, x = voC b := ⟨_, rfl⟩
  rw [← hCA, ← hCB] at i0 i1 HBU M HSS ⊢
  rw [← hCA] at HZA HOA HKA HVA
  rw [← hCB] at HZB HOB HKB HVB
  clear hCA hCB
  go_enter Tryz.func23, Tryz.ntmps23
  go_upto_region 1 with (fail)
  obtain ⟨g7, hg7⟩ : ∃ g, g = w.heap.size := ⟨_, rfl⟩
  obtain ⟨g8, hg8⟩ : ∃ g, g = w.heap.size + 1 := ⟨_, rfl⟩
  obtain ⟨g9, hg9⟩ : ∃ g, g = w.heap.size + 1 + 1 := ⟨_, rfl⟩
  rw [← hg9, ← hg8, ← hg7] at M
  first
    | rw [← hg9, ← hg8, ← hg7]
    | rw [show w.heap.size + 2 = g9 from hg9.symm, ← hg8, ← hg7]
  clear hg7 hg8 hg9
  generalize ((w.alloc (.cells (parC D E) 42)).alloc (.cells CA 46)).alloc (.cells CB 46) = w1 at *
  go_upto_region 2 with (first
    | (refine wpList_load_rowT (by rfl) 46 (.tmp 8) rfl g8 0 rfl CA _ (rowT_range M.out.h8) Tryz.underlying46 rfl (by rw [HZA.out]; kernel_rfl) ?_)
    | (refine wpList_load_rowT (by rfl) 46 (.tmp 9) rfl g9 0 rfl CB _ (rowT_range M.out.h9) Tryz.underlying46 rfl (by rw [HZB.out]; kernel_rfl) ?_)
    | (refine wpList_buildTo rfl 125 #[(0, .tmp 14), (1, .tmp 15)] rfl (some 16) rfl (CA ++ CB) (by refine Eq.trans (congrArg (Tryz.prog.built 125) ?_) HBU.out; kernel_rfl) ?_))
  cases r1 with
  | some x =>
    simp only [errV] at HVA
    refine wp_loop_rounds 1 ?_
    rw [rounds_succ]
    go_wp2_with (first
        | (refine wpList_store_row rfl 46 (.tmp 12) (.tmp 19) rfl w1.heap.size CA rfl rfl 46 _ (heap_alloc_new _ _) (by rw [HZA.out]; kernel_rfl) (by rw [HZA.out]; rfl) HOA.out ?_; rw [World.setRow_alloc_new]; have HNa := Lib.hid (heap_alloc_new w1 (.cells CA 46)); replace M := Lib.hid (M.out.call (below_alloc w1 (.cells CA 46))); obtain ⟨qa, hqa⟩ : ∃ x, x = w1.heap.size := ⟨_, rfl⟩; rw [← hqa] at HNa ⊢; clear hqa; generalize w1.alloc (.cells CA 46) = wa0 at *)
        | (refine wpList_load_rowT (by rfl) 42 (.tmp 7) rfl g7 0 rfl (parC D E) _ (rowT_range M.out.h7) Tryz.underlying42 rfl (by kernel_rfl) ?_)
        | (refine wpList_load_rowT (by rfl) 46 (.tmp 12) rfl qa 0 rfl CA _ (rowT_range HNa.out) Tryz.underlying46 rfl (by rw [HZA.out]; kernel_rfl) ?_)
        | (go_at_call 21; (with_reducible refine (HVA.out _ (HE.out.below M.out.below HE.out.lt) M.out.l M.out.sa).mono ?_); rintro e wa1 ⟨rfl, hb⟩; replace M := Lib.hid (M.out.call hb); clear hb))
    go_ret
    exact ⟨by rw [HEE.out]; rfl, M.out.below⟩
  | none =>
    simp only [errV] at HVA
    refine wp_loop_rounds 3 ?_
    rw [rounds_succ]
    go_wp2_with (first
        | (refine wpList_store_row rfl 46 (.tmp 12) (.tmp 19) rfl w1.heap.size CA rfl rfl 46 _ (heap_alloc_new _ _) (by rw [HZA.out]; kernel_rfl) (by rw [HZA.out]; rfl) HOA.out ?_; rw [World.setRow_alloc_new]; have HNa := Lib.hid (heap_alloc_new w1 (.cells CA 46)); replace M := Lib.hid (M.out.call (below_alloc w1 (.cells CA 46))); obtain ⟨qa, hqa⟩ : ∃ x, x = w1.heap.size := ⟨_, rfl⟩; rw [← hqa] at HNa ⊢; clear hqa; generalize w1.alloc (.cells CA 46) = wa0 at *)
        | (refine wpList_load_rowT (by rfl) 42 (.tmp 7) rfl g7 0 rfl (parC D E) _ (rowT_range M.out.h7) Tryz.underlying42 rfl (by kernel_rfl) ?_)
        | (refine wpList_load_rowT (by rfl) 46 (.tmp 12) rfl qa 0 rfl CA _ (rowT_range HNa.out) Tryz.underlying46 rfl (by rw [HZA.out]; kernel_rfl) ?_)
        | (go_at_call 21; (with_reducible refine (HVA.out _ (HE.out.below M.out.below HE.out.lt) M.out.l M.out.sa).mono ?_); rintro e wa1 ⟨rfl, hb⟩; replace M := Lib.hid (M.out.call hb); clear hb))
    cases r2 with
    | some x =>
      simp only [errV] at HVB
      rw [rounds_succ]
      go_wp2_with (first
          | (refine wpList_store_row rfl 46 (.tmp 12) (.tmp 19) rfl wa1.heap.size CB rfl rfl 46 _ (heap_alloc_new _ _) (by rw [HZB.out]; kernel_rfl) (by rw [HZB.out]; rfl) HOB.out ?_; rw [World.setRow_alloc_new]; have HNb := Lib.hid (heap_alloc_new wa1 (.cells CB 46)); replace M := Lib.hid (M.out.call (below_alloc wa1 (.cells CB 46))); obtain ⟨qb, hqb⟩ : ∃ x, x = wa1.heap.size := ⟨_, rfl⟩; rw [← hqb] at HNb ⊢; clear hqb; generalize wa1.alloc (.cells CB 46) = wb0 at *)
          | (refine wpList_load_rowT (by rfl) 42 (.tmp 7) rfl g7 0 rfl (parC D E) _ (rowT_range M.out.h7) Tryz.underlying42 rfl (by kernel_rfl) ?_)
          | (refine wpList_load_rowT (by rfl) 46 (.tmp 12) rfl qb 0 rfl CB _ (rowT_range HNb.out) Tryz.underlying46 rfl (by rw [HZB.out]; kernel_rfl) ?_)
          | (go_at_call 21; (with_reducible refine (HVB.out _ (HE.out.below M.out.below HE.out.lt) M.out.l M.out.sb).mono ?_); rintro e wb1 ⟨rfl, hb⟩; replace M := Lib.hid (M.out.call hb); clear hb))
      go_ret
      exact ⟨by rw [HEE.out]; rfl, M.out.below⟩
    | none =>
      simp only [errV] at HVB
      rw [rounds_succ]
      go_wp2_with (first
          | (refine wpList_store_row rfl 46 (.tmp 12) (.tmp 19) rfl wa1.heap.size CB rfl rfl 46 _ (heap_alloc_new _ _) (by rw [HZB.out]; kernel_rfl) (by rw [HZB.out]; rfl) HOB.out ?_; rw [World.setRow_alloc_new]; have HNb := Lib.hid (heap_alloc_new wa1 (.cells CB 46)); replace M := Lib.hid (M.out.call (below_alloc wa1 (.cells CB 46))); obtain ⟨qb, hqb⟩ : ∃ x, x = wa1.heap.size := ⟨_, rfl⟩; rw [← hqb] at HNb ⊢; clear hqb; generalize wa1.alloc (.cells CB 46) = wb0 at *)
          | (refine wpList_load_rowT (by rfl) 42 (.tmp 7) rfl g7 0 rfl (parC D E) _ (rowT_range M.out.h7) Tryz.underlying42 rfl (by kernel_rfl) ?_)
          | (refine wpList_load_rowT (by rfl) 46 (.tmp 12) rfl qb 0 rfl CB _ (rowT_range HNb.out) Tryz.underlying46 rfl (by rw [HZB.out]; kernel_rfl) ?_)
          | (go_at_call 21; (with_reducible refine (HVB.out _ (HE.out.below M.out.below HE.out.lt) M.out.l M.out.sb).mono ?_); rintro e wb1 ⟨rfl, hb⟩; replace M := Lib.hid (M.out.call hb); clear hb))
      have heq := eq32 a.blk b.blk
      cases hs : sameSl a b with
      | false =>
        have HX := Lib.hid (slotE_no hs)
        rw [hs] at HSS
        clear hs
        rw [rounds_succ]
        go_wp2_with (first
          | (refine wpList_load_rowT (by rfl) 46 (.tmp 8) rfl g8 0 rfl CA _ (rowT_range M.out.h8) Tryz.underlying46 rfl (by rw [HZA.out]; kernel_rfl) ?_)
          | (refine wpList_load_rowT (by rfl) 46 (.tmp 9) rfl g9 0 rfl CB _ (rowT_range M.out.h9) Tryz.underlying46 rfl (by rw [HZB.out]; kernel_rfl) ?_)
          | (go_at_call 77; (with_reducible refine (HSS.out _).mono ?_); rintro e w4 ⟨rfl, hb⟩; replace M := Lib.hid (M.out.call hb); clear hb))
        go_ret
        exact ⟨by rw [HEE.out, HX.out]; rfl, M.out.below⟩
      | true =>
        cases he2 : eqB a.blk b.blk with
        | true =>
          have HX := Lib.hid (slotE_eq he2)
          rw [hs] at HSS
          rw [he2] at heq
          clear hs he2
          rw [rounds_succ]
          go_wp2_with (first
            | (refine wpList_load_rowT (by rfl) 46 (.tmp 8) rfl g8 0 rfl CA _ (rowT_range M.out.h8) Tryz.underlying46 rfl (by rw [HZA.out]; kernel_rfl) ?_)
            | (refine wpList_load_rowT (by rfl) 46 (.tmp 9) rfl g9 0 rfl CB _ (rowT_range M.out.h9) Tryz.underlying46 rfl (by rw [HZB.out]; kernel_rfl) ?_)
            | (go_at_call 77; (with_reducible refine (HSS.out _).mono ?_); rintro e w4 ⟨rfl, hb⟩; replace M := Lib.hid (M.out.call hb); clear hb)
            | (refine wpList_load_rowT (by rfl) 32 (.tmp 34) rfl g8 3 rfl (rowOf .u8 32 a.blk) _ (HKA.out _ _ M.out.h8) Tryz.underlying32 rfl (by rw [rowOf_size]; kernel_rfl) ?_)
            | (refine wpList_load_rowT (by rfl) 32 (.tmp 36) rfl g9 3 rfl (rowOf .u8 32 b.blk) _ (HKB.out _ _ M.out.h9) Tryz.underlying32 rfl (by rw [rowOf_size]; kernel_rfl) ?_))
          go_ret
          exact ⟨by rw [HEE.out, HX.out]; rfl, M.out.below⟩
        | false =>
          have HX := Lib.hid (slotE_ok hs he2)
          rw [hs] at HSS
          rw [he2] at heq
          clear hs he2
          rw [rounds_succ]
          go_wp2_with (first
            | (refine wpList_load_rowT (by rfl) 46 (.tmp 8) rfl g8 0 rfl CA _ (rowT_range M.out.h8) Tryz.underlying46 rfl (by rw [HZA.out]; kernel_rfl) ?_)
            | (refine wpList_load_rowT (by rfl) 46 (.tmp 9) rfl g9 0 rfl CB _ (rowT_range M.out.h9) Tryz.underlying46 rfl (by rw [HZB.out]; kernel_rfl) ?_)
            | (go_at_call 77; (with_reducible refine (HSS.out _).mono ?_); rintro e w4 ⟨rfl, hb⟩; replace M := Lib.hid (M.out.call hb); clear hb)
            | (refine wpList_load_rowT (by rfl) 32 (.tmp 34) rfl g8 3 rfl (rowOf .u8 32 a.blk) _ (HKA.out _ _ M.out.h8) Tryz.underlying32 rfl (by rw [rowOf_size]; kernel_rfl) ?_)
            | (refine wpList_load_rowT (by rfl) 32 (.tmp 36) rfl g9 3 rfl (rowOf .u8 32 b.blk) _ (HKB.out _ _ M.out.h9) Tryz.underlying32 rfl (by rw [rowOf_size]; kernel_rfl) ?_))
          go_ret
          exact ⟨by rw [HEE.out, HX.out]; rfl, M.out.below⟩
set_option maxHeartbeats 16000000 in
theorem rtwo_any (chain : ByteArray) (l : List Va) (lv : Value) (D E : Int) (a b : Vo) (w : World) (hl : VaIn w lv l) (hsa : BytesIn w a.sv a.sign) (hsb : BytesIn w b.sv b.sign) (hc : chain.size ≤ 140737488351232) (hva : VoOk a) (hvb : VoOk b) (hba : bytesOk a.sign) (hbb : bytesOk b.sign) (hza : a.sign.length ≤ 140737488351232) (hzb : b.sign.length ≤ 140737488351232) :
    Calls Tryz.prog 24 #[.string chain, lv, .agg (parC D E), .agg (voC a), .agg (voC b)] w fun e w' => e = .returned (.int .i64 <| numE (twoE chain l D E a b)) ∧ Below w.heap.size w w' := by
  obtain ⟨la, lc, rfl, -, hlm⟩ := hl.len
  have hn : l.length ≤ 9223372036854775807 := by unfold maxLen at hlm; omega
  have HSA := Lib.hid (show ∃ x n c, a.sv = .slice x n c from by obtain ⟨x, c, e, -⟩ := hsa; exact ⟨_, _, _, e⟩)
  have HSB := Lib.hid (show ∃ x n c, b.sv = .slice x n c from by obtain ⟨x, c, e, -⟩ := hsb; exact ⟨_, _, _, e⟩)
  have hb1 := below_alloc w (.cells (parC D E) 42)
  have hb2 := below_alloc (w.alloc (.cells (parC D E) 42)) (.cells (voC a) 46)
  have hb3 := below_alloc ((w.alloc (.cells (parC D E) 42)).alloc (.cells (voC a) 46)) (.cells (voC b) 46)
  have h8 := heap_alloc_new (w.alloc (.cells (parC D E) 42)) (.cells (voC a) 46)
  have h9 := heap_alloc_new ((w.alloc (.cells (parC D E) 42)).alloc (.cells (voC a) 46)) (.cells (voC b) 46)
  rw [size_alloc] at h8 h9
  rw [size_alloc] at h9
  have M := Lib.hid (show TwM w w.heap.size (w.heap.size + 1) (w.heap.size + 1 + 1) D E (voC a) (voC b) a b l (.slice la l.length lc) (((w.alloc (.cells (parC D E) 42)).alloc (.cells (voC a) 46)).alloc (.cells (voC b) 46)) from
    ⟨(hb1.trans (hb2.mono (by simp))).trans (hb3.mono (by simp; omega)), (hb3.block _ (by simp; omega)).trans ((hb2.block _ (by simp)).trans (heap_alloc_new w _)), (hb3.block _ (by simp)).trans h8, h9, ((hl.below hb1).below hb2).below hb3, ((hsa.below hb1).below hb2).below hb3, ((hsb.below hb1).below hb2).below hb3⟩)
  have HVA := Lib.hid (show ∀ w, VaIn w (.slice la l.length lc) l → BytesIn w a.sv a.sign → Calls Tryz.prog 22 #[.string chain, .slice la l.length lc, .agg (parC D E), .agg (voC a)] w fun e w' => e = .returned (.int .i64 (numE (vvE chain l D E a))) ∧ Below w.heap.size w w' from fun w h1 h2 => rvvote_any chain l _ D E a w h1 h2 hc hva hba hza)
  have HVB := Lib.hid (show ∀ w, VaIn w (.slice la l.length lc) l → BytesIn w b.sv b.sign → Calls Tryz.prog 22 #[.string chain, .slice la l.length lc, .agg (parC D E), .agg (voC b)] w fun e w' => e = .returned (.int .i64 (numE (vvE chain l D E b))) ∧ Below w.heap.size w w' from fun w h1 h2 => rvvote_any chain l _ D E b w h1 h2 hc hvb hbb hzb)
  obtain ⟨r1, hr1⟩ : ∃ r, r = vvE chain l D E a := ⟨_, rfl⟩
  obtain ⟨r2, hr2⟩ : ∃ r, r = vvE chain l D E b := ⟨_, rfl⟩
  have HT := Lib.hid (show twoE chain l D E a b = twoM r1 r2 (slotE a b) from by rw [hr1, hr2]; rfl)
  have HP1 := Lib.hid (show ∀ x, r1 = some x → 0 < x from fun x e => vvE_pos (hr1 ▸ e))
  have HP2 := Lib.hid (show ∀ x, r2 = some x → 0 < x from fun x e => vvE_pos (hr2 ▸ e))
  rw [← hr1] at HVA
  rw [← hr2] at HVB
  obtain ⟨nl, hnl⟩ : ∃ n, n = l.length := ⟨_, rfl⟩
  rw [← hnl] at M hn HVA HVB ⊢
  obtain ⟨E1, hE1⟩ : ∃ E1, E1 = twoE chain l D E a b := ⟨_, rfl⟩
  have HEE := Lib.hid (hE1.trans HT.out)
  rw [← hE1]
  clear hb1 hb2 hb3 h8 h9 hl hsa hsb hc hva hvb hba hbb hza hzb hE1 hnl hr1 hr2 hlm HT
  go_enter Tryz.func24, Tryz.ntmps24
  go_upto_region 1 with (fail)
  obtain ⟨g7, hg7⟩ : ∃ g, g = w.heap.size := ⟨_, rfl⟩
  obtain ⟨g8, hg8⟩ : ∃ g, g = w.heap.size + 1 := ⟨_, rfl⟩
  obtain ⟨g9, hg9⟩ : ∃ g, g = w.heap.size + 1 + 1 := ⟨_, rfl⟩
  rw [← hg9, ← hg8, ← hg7] at M
  first
    | rw [← hg9, ← hg8, ← hg7]
    | rw [show w.heap.size + 2 = g9 from hg9.symm, ← hg8, ← hg7]
  clear hg7 hg8 hg9
  generalize ((w.alloc (.cells (parC D E) 42)).alloc (.cells (voC a) 46)).alloc (.cells (voC b) 46) = w1 at *
  cases r1 with
  | some x =>
    have hx := HP1.out x rfl
    have hne : ((x : Int) != 0) = true := by simp; omega
    have hne2 : ¬ (x : Int) = 0 := by omega
    have hne3 : ((x : Int) == 0) = false := by simp; omega
    simp only [numE] at HVA
    go_wp2_with (first
      | (refine wpList_load_rowT (by rfl) 42 (.tmp 7) rfl g7 0 rfl (parC D E) _ (rowT_range M.out.h7) Tryz.underlying42 rfl (by kernel_rfl) ?_)
      | (refine wpList_load_rowT (by rfl) 46 (.tmp 8) rfl g8 0 rfl (voC a) _ (rowT_range M.out.h8) Tryz.underlying46 rfl (by rw [voC_size]; kernel_rfl) ?_)
      | (refine wpList_load_rowT (by rfl) 46 (.tmp 9) rfl g9 0 rfl (voC b) _ (rowT_range M.out.h9) Tryz.underlying46 rfl (by rw [voC_size]; kernel_rfl) ?_)
      | (go_at_call 22; (with_reducible refine (HVA.out _ M.out.l M.out.sa).mono ?_); rintro e w2 ⟨rfl, hb⟩; replace M := Lib.hid (M.out.call hb); clear hb)
      | (go_at_call 22; (with_reducible refine (HVB.out _ M.out.l M.out.sb).mono ?_); rintro e w3 ⟨rfl, hb⟩; replace M := Lib.hid (M.out.call hb); clear hb))
    go_ret
    exact ⟨by rw [HEE.out]; rfl, M.out.below⟩
  | none =>
    simp only [numE] at HVA
    cases r2 with
    | some x =>
      have hx := HP2.out x rfl
      have hne : ((x : Int) != 0) = true := by simp; omega
      have hne2 : ¬ (x : Int) = 0 := by omega
      have hne3 : ((x : Int) == 0) = false := by simp; omega
      simp only [numE] at HVB
      go_wp2_with (first
        | (refine wpList_load_rowT (by rfl) 42 (.tmp 7) rfl g7 0 rfl (parC D E) _ (rowT_range M.out.h7) Tryz.underlying42 rfl (by kernel_rfl) ?_)
        | (refine wpList_load_rowT (by rfl) 46 (.tmp 8) rfl g8 0 rfl (voC a) _ (rowT_range M.out.h8) Tryz.underlying46 rfl (by rw [voC_size]; kernel_rfl) ?_)
        | (refine wpList_load_rowT (by rfl) 46 (.tmp 9) rfl g9 0 rfl (voC b) _ (rowT_range M.out.h9) Tryz.underlying46 rfl (by rw [voC_size]; kernel_rfl) ?_)
        | (go_at_call 22; (with_reducible refine (HVA.out _ M.out.l M.out.sa).mono ?_); rintro e w2 ⟨rfl, hb⟩; replace M := Lib.hid (M.out.call hb); clear hb)
        | (go_at_call 22; (with_reducible refine (HVB.out _ M.out.l M.out.sb).mono ?_); rintro e w3 ⟨rfl, hb⟩; replace M := Lib.hid (M.out.call hb); clear hb))
      go_ret
      exact ⟨by rw [HEE.out]; rfl, M.out.below⟩
    | none =>
      simp only [numE] at HVB
      go_upto_region 6 with (first
        | (refine wpList_load_rowT (by rfl) 42 (.tmp 7) rfl g7 0 rfl (parC D E) _ (rowT_range M.out.h7) Tryz.underlying42 rfl (by kernel_rfl) ?_)
        | (refine wpList_load_rowT (by rfl) 46 (.tmp 8) rfl g8 0 rfl (voC a) _ (rowT_range M.out.h8) Tryz.underlying46 rfl (by rw [voC_size]; kernel_rfl) ?_)
        | (refine wpList_load_rowT (by rfl) 46 (.tmp 9) rfl g9 0 rfl (voC b) _ (rowT_range M.out.h9) Tryz.underlying46 rfl (by rw [voC_size]; kernel_rfl) ?_)
        | (go_at_call 22; (with_reducible refine (HVA.out _ M.out.l M.out.sa).mono ?_); rintro e w2 ⟨rfl, hb⟩; replace M := Lib.hid (M.out.call hb); clear hb)
        | (go_at_call 22; (with_reducible refine (HVB.out _ M.out.l M.out.sb).mono ?_); rintro e w3 ⟨rfl, hb⟩; replace M := Lib.hid (M.out.call hb); clear hb))
      obtain ⟨c0, c1, c2, ck, c3, -⟩ := vo_cells M.out.h8
      obtain ⟨d0, d1, d2, dk, d3, -⟩ := vo_cells M.out.h9
      have HCK := Lib.hid ck
      have HDK := Lib.hid dk
      have heq := eq32 a.blk b.blk
      obtain ⟨K, hK⟩ : ∃ K, K = a.kind := ⟨_, rfl⟩
      obtain ⟨H, hH⟩ : ∃ K, K = a.height := ⟨_, rfl⟩
      obtain ⟨R, hR⟩ : ∃ K, K = a.round := ⟨_, rfl⟩
      obtain ⟨V, hV⟩ : ∃ K, K = a.val := ⟨_, rfl⟩
      obtain ⟨K2, hK2⟩ : ∃ K, K = b.kind := ⟨_, rfl⟩
      obtain ⟨H2, hH2⟩ : ∃ K, K = b.height := ⟨_, rfl⟩
      obtain ⟨R2, hR2⟩ : ∃ K, K = b.round := ⟨_, rfl⟩
      obtain ⟨V2, hV2⟩ : ∃ K, K = b.val := ⟨_, rfl⟩
      have HSL := Lib.hid (show sameSl a b = (decide (K = K2) && (decide (H = H2) && (decide (R = R2) && decide (V = V2)))) from by rw [hK, hH, hR, hV, hK2, hH2, hR2, hV2]; rfl)
      rw [← hK] at c0; rw [← hH] at c1; rw [← hR] at c2; rw [← hV] at c3
      rw [← hK2] at d0; rw [← hH2] at d1; rw [← hR2] at d2; rw [← hV2] at d3
      clear ck dk hK hH hR hV hK2 hH2 hR2 hV2 HVA HVB
      by_cases k0 : K = K2
      case neg =>
        have HX := Lib.hid (slotE_no (HSL.out.trans (by rw [decide_eq_false k0]; simp)))
        have hne : (K != K2) = true := by simpa using k0
        clear HSL
        go_wp2_with (fail)
        go_ret
        exact ⟨by rw [HEE.out, HX.out]; rfl, M.out.below⟩
      subst k0
      by_cases k1 : H = H2
      case neg =>
        have HX := Lib.hid (slotE_no (HSL.out.trans (by rw [decide_eq_false k1]; simp)))
        have hne : (H != H2) = true := by simpa using k1
        clear HSL
        go_wp2_with (fail)
        go_ret
        exact ⟨by rw [HEE.out, HX.out]; rfl, M.out.below⟩
      subst k1
      by_cases k2 : R = R2
      case neg =>
        have HX := Lib.hid (slotE_no (HSL.out.trans (by rw [decide_eq_false k2]; simp)))
        have hne : (R != R2) = true := by simpa using k2
        clear HSL
        go_wp2_with (fail)
        go_ret
        exact ⟨by rw [HEE.out, HX.out]; rfl, M.out.below⟩
      subst k2
      by_cases k3 : V = V2
      case neg =>
        have HX := Lib.hid (slotE_no (HSL.out.trans (by rw [decide_eq_false k3]; simp)))
        have hne : (V != V2) = true := by simpa using k3
        clear HSL
        go_wp2_with (fail)
        go_ret
        exact ⟨by rw [HEE.out, HX.out]; rfl, M.out.below⟩
      subst k3
      have HS1 := Lib.hid (show sameSl a b = true from HSL.out.trans (by simp))
      clear HSL
      cases he2 : eqB a.blk b.blk with
      | true =>
        have HX := Lib.hid (slotE_eq he2)
        rw [he2] at heq
        clear he2
        go_wp2_with (first
          | (refine wpList_load_rowT (by rfl) 32 (.tmp 54) rfl g8 3 rfl (rowOf .u8 32 a.blk) _ HCK.out Tryz.underlying32 rfl (by rw [rowOf_size]; kernel_rfl) ?_)
          | (refine wpList_load_rowT (by rfl) 32 (.tmp 56) rfl g9 3 rfl (rowOf .u8 32 b.blk) _ HDK.out Tryz.underlying32 rfl (by rw [rowOf_size]; kernel_rfl) ?_))
        go_ret
        exact ⟨by rw [HEE.out, HX.out]; rfl, M.out.below⟩
      | false =>
        have HX := Lib.hid (slotE_ok HS1.out he2)
        rw [he2] at heq
        clear he2
        go_wp2_with (first
          | (refine wpList_load_rowT (by rfl) 32 (.tmp 54) rfl g8 3 rfl (rowOf .u8 32 a.blk) _ HCK.out Tryz.underlying32 rfl (by rw [rowOf_size]; kernel_rfl) ?_)
          | (refine wpList_load_rowT (by rfl) 32 (.tmp 56) rfl g9 3 rfl (rowOf .u8 32 b.blk) _ HDK.out Tryz.underlying32 rfl (by rw [rowOf_size]; kernel_rfl) ?_))
        go_ret
        exact ⟨by rw [HEE.out, HX.out]; rfl, M.out.below⟩
end Go.Proofs.YtjnpcmfpiejmjaaGreatDoor

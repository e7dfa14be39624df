/- coin: the reference's Parse (written by gencno.py). -/
import Derived.Test.YteokgklfljhcaaaGreatDoorCnE
import Derived.Test.YteokgklfljhcaaaGreatDoorCnX
import Derived.Test.YteokgklfljhcaaaGreatDoorCnI
namespace Go.Proofs.YteokgklfljhcaaaGreatDoor
open Go.RowKit Go.Shelf
set_option maxRecDepth 100000
set_option linter.unusedSimpArgs false
set_option linter.unusedVariables false
attribute [local go_sem] Oper.semAt_some
theorem rS_size (s : ByteArray) : ∀ k, ∀ x ∈ (rS s k).1, x.size ≤ s.size
  | 0, x, hx => by cases hx
  | k + 1, x, hx => by
    unfold rS at hx
    split at hx
    · split at hx
      · rcases List.mem_append.1 hx with h | h
        · exact rS_size s k x h
        · rw [List.mem_singleton.1 h, ByteArray.size_extract]; omega
      · exact rS_size s k x hx
    · exact rS_size s k x hx
/-- what lies in memory in the reference's Parse -/
structure RpM (w : World) (b : ByteArray) (pv : Value) (path : List ByteArray) (W : World) : Prop where
  res : W.heap[w.heap.size]? = some (.cells (trC (.slice none 0 0) { data := #[] }) 62 (0, 0))
  x : W.heap[w.heap.size + 1]? = some (.cells (trC pv b) 62 (0, 0))
  own : W.ownsRow (w.heap.size + 2) 9 1 pv path.length (strV path)
  below : Below w.heap.size w W
section
variable {w W W' : World} {b : ByteArray} {pv : Value} {path : List ByteArray}
theorem RpM.call (m : RpM w b pv path W) (hb : Below W.heap.size W W') : RpM w b pv path W' := ⟨(hb.block _ (hlt14 m.res)).trans m.res, (hb.block _ (hlt14 m.x)).trans m.x, own_stay14 m.own hb, m.below.trans (hb.mono m.below.size)⟩
theorem RpM.c0 (m : RpM w b pv path W) : W.cell? ⟨w.heap.size + 1, 0, none⟩ = some pv := cell_of_row _ _ _ _ _ _ m.x
theorem RpM.c1 (m : RpM w b pv path W) : W.cell? ⟨w.heap.size + 1, 1, none⟩ = some (.string b) := cell_of_row _ _ _ _ _ _ m.x
theorem RpM.wide (m : RpM w b pv path W) : ∃ a c, pv = .slice a path.length c := by
  rcases m.own.2 with ⟨rfl, h⟩ | ⟨g, cap, cur, rfl, _⟩
  · exact ⟨none, 0, by rw [h]⟩
  · exact ⟨_, _, rfl⟩
theorem RpM.push (m : RpM w b pv path W) {x : ByteArray} {v : Value} (hg : W.grownBy W' pv.ownBlock) (ho : W'.ownsRow (w.heap.size + 2) 9 1 v (path ++ [x]).length (strV (path ++ [x]))) :
    RpM w b v (path ++ [x]) (W'.setCell ⟨w.heap.size + 1, 0, none⟩ v) ∧ W'.heap[w.heap.size + 1]? = some (.cells (trC pv b) 62 (0, 0)) := by
  have hr : ∀ k, pv.ownBlock = some k → w.heap.size + 2 ≤ k := fun k hk => (m.own.lt k hk).1
  have hne : ∀ j, j < w.heap.size + 2 → some j ≠ pv.ownBlock := fun j hj e => by have := hr j e.symm; omega
  have gx := (hg.block (w.heap.size + 1) (hlt14 m.x) (hne _ (by omega))).trans m.x
  refine ⟨⟨(heap_setCell_other _ _ _ _ (show w.heap.size ≠ w.heap.size + 1 by omega)).trans ((hg.block _ (hlt14 m.res) (hne _ (by omega))).trans m.res), ?_, ownsRow_setCell_below ho (show w.heap.size + 1 < w.heap.size + 2 by omega) _, (m.below.grown hg m.below.size (fun k e => by have := hr k e; omega)).setCell (p := ⟨w.heap.size + 1, 0, none⟩) (show w.heap.size ≤ w.heap.size + 1 by omega) _⟩, gx⟩
  exact heap_setCell_same W' (w.heap.size + 1) 0 _ _ v gx
theorem RpM.base (m : RpM w b pv path W) (b' : ByteArray) : RpM w b' pv path (W.setCell ⟨w.heap.size + 1, 1, none⟩ (.string b')) :=
  ⟨(heap_setCell_other _ _ _ _ (show w.heap.size ≠ w.heap.size + 1 by omega)).trans m.res, heap_setCell_same W (w.heap.size + 1) 1 _ _ _ m.x, ownsRow_setCell_below m.own (show w.heap.size + 1 < w.heap.size + 2 by omega) _, m.below.setCell (p := ⟨w.heap.size + 1, 1, none⟩) (show w.heap.size ≤ w.heap.size + 1 by omega) _⟩
theorem RpM.ret (m : RpM w b pv path W) (v : Value) (b' : ByteArray) : Below w.heap.size w (W.setRow w.heap.size (trC v b')) := ⟨m.below.os, m.below.tape, m.below.output, by rw [show (W.setRow w.heap.size (trC v b')).heap.size = W.heap.size from by simp [World.setRow]]; exact m.below.size, fun k hk => (setRow_other _ _ _ _ (by omega)).trans (m.below.block k hk)⟩
theorem trE_cases (p : List ByteArray) (b : ByteArray) : trE p b = none ∨ trE p b = some 2 ∨ trE p b = some 40 := by
  unfold trE
  split
  · exact .inr (.inl rfl)
  · split
    · exact .inr (.inr rfl)
    · exact .inl rfl
end
set_option maxHeartbeats 8000000 in
theorem rparse14_any (s : ByteArray) (w : World) (hs : s.size ≤ 8796093022207) :
    Calls Tryz.prog 36 #[.string s] w fun e w' => ∃ pv, e = .returned (.tuple #[.agg (trC pv (parB s)), .int .i64 (numE (parE s))]) ∧ SsIn w' pv (parP s) ∧ Below w.heap.size w w' := by
  have hsI : (s.size : Int) ≤ 8796093022207 := by omega
  have HRP := Lib.hid (ref_par s)
  have HPC := Lib.hid (parE_cases s)
  have HFU := Lib.hid (fun pv w h => rfull_any (refP s) (refB s) pv w h (fun x hx => Nat.le_trans (rS_size s _ x hx) (by omega)) (by unfold refB; rw [ByteArray.size_extract]; omega))
  go_enter Tryz.func36, Tryz.ntmps36
  go_upto_region 1 with (fail)
  go_upto_region 2 with (fail)
  have M0 : RpM w { data := #[] } (.slice none 0 0) [] ((w.alloc (.cells (trC (.slice none 0 0) { data := #[] }) 62)).alloc (.cells (trC (.slice none 0 0) { data := #[] }) 62)) := by
    have h1 := heap_alloc_new w (.cells (trC (.slice none 0 0) { data := #[] }) 62)
    have h2 := heap_alloc_new (w.alloc (.cells (trC (.slice none 0 0) { data := #[] }) 62)) (.cells (trC (.slice none 0 0) { data := #[] }) 62)
    rw [World.size_alloc] at h2
    exact ⟨(heap_alloc_old _ _ _ (by simp)).trans h1, h2, World.ownsRow_nil _ _ _ _, (below_alloc _ _).alloc (by simp) _⟩
  show Code.wp _ _ _ _ ((w.alloc (.cells (trC (.slice none 0 0) { data := #[] }) 62)).alloc (.cells (trC (.slice none 0 0) { data := #[] }) 62))
  generalize (w.alloc (.cells (trC (.slice none 0 0) { data := #[] }) 62)).alloc (.cells (trC (.slice none 0 0) { data := #[] }) 62) = W1 at *
  have HM0 := Lib.hid M0
  clear M0
  go_wp2_with (fail)
  go_loopw [5, 6, 7] (fun f m i wr => ∃ (k : Nat) (pv : Value), k ≤ s.size ∧ f = .int .i64 ((rS s k).2.1 : Int) ∧ m = .int .i64 ((rS s k).2.2 : Int) ∧ i = .int .i64 (k : Int) ∧ Hid (RpM w { data := #[] } pv (rS s k).1 wr)) (fun _ _ i _ => s.size - (intOf i).toNat)
  case atStart => exact ⟨0, _, Nat.zero_le _, rfl, rfl, rfl, HM0⟩
  case round =>
    clear HM0
    obtain ⟨k, pv, hk, rfl, rfl, rfl, HM⟩ := hrel
    obtain ⟨pa, pc, rfl⟩ := HM.out.wide
    by_cases hlt : k < s.size
    · have hltI : (k : Int) < (s.size : Int) := by omega
      have HN := Lib.hid (show rS s (k + 1) = if s.data.toList[k]? = some 47 then (if ((rS s k).2.2 + 1) % 2 = 0 then ((rS s k).1 ++ [s.extract (rS s k).2.1 k], k + 1, (rS s k).2.2 + 1) else ((rS s k).1, (rS s k).2.1, (rS s k).2.2 + 1)) else rS s k from rfl)
      have HBO := Lib.hid (rS_bounds s k)
      obtain ⟨⟨P, f, m⟩, hr⟩ : ∃ r, r = rS s k := ⟨_, rfl⟩
      rw [← hr] at HM HN HBO ⊢
      simp only at HM HN HBO ⊢
      clear hr
      have hbf : f ≤ k := HBO.out.1
      have hbm : m ≤ k := HBO.out.2.1
      have hbl : P.length ≤ k := HBO.out.2.2
      rw [get14 s k hlt] at HN
      by_cases h47 : s[k] = 47
      · have hc47 : (s[k].toNat : Int) = 47 := by rw [h47]; rfl
        have hn47 : s[k].toNat = 47 := by rw [h47]; rfl
        rw [h47, if_pos rfl] at HN
        by_cases hm2 : (m + 1) % 2 = 0
        · rw [if_pos hm2] at HN
          have hrem : ((m : Int) + 1).tmod 2 = 0 := by rw [Int.tmod_eq_emod_of_nonneg (by omega)]; omega
          have c1 : (0 : Int) ≤ (f : Int) := by omega
          have c2 : (f : Int) ≤ (k : Int) := by omega
          have c3 : (k : Int) ≤ (s.size : Int) := by omega
          have c4 : (0 : Int) ≤ (k : Int) := by omega
          clear h47 hm2
          obtain ⟨n, hn⟩ : ∃ n, n = P.length := ⟨_, rfl⟩
          rw [← hn] at HM hbl
          have HNN := Lib.hid hn
          clear hn
          go_upto_region 9 with (fail)
          refine wp_region_T (fun X => X.cell? ⟨w.heap.size + 1, 0, none⟩ = some (.slice pa n pc)) [0, 1, 2, 3, 4, 5, 6, 7, 8] (by kernel_rfl) ?_
          have M2 := Lib.hid (HM.out.call (Below.refl _ wr).drew)
          generalize wr.drew = w3 at *
          obtain ⟨R, hR⟩ : ∃ r, r = s.extract f k := ⟨_, rfl⟩
          have HR := Lib.hid hR
          rw [← hR] at HN
          clear hR
          refine anyT_take [9] (i := 0) (v := .pointer (some ⟨w.heap.size + 1, 0, none⟩)) rfl (by kernel_rfl) (by kernel_rfl) (by kernel_rfl) (fun _ _ _ h => h) (by kernel_rfl) (Or.inl ⟨by rfl, fun w' _ => by go_simp⟩) M2.out.c0 ?_
          try simp only [List.getElem_toArray, List.getElem_cons_succ, List.getElem_cons_zero, Act.put, List.setIfInBounds_toArray, List.set_cons_zero, List.set_cons_succ]
          refine anyT_take [9] (i := 2) (v := .string s) rfl (by kernel_rfl) (by kernel_rfl) (by kernel_rfl) (fun _ _ _ h => h) (by kernel_rfl) (Or.inl ⟨by rfl, fun w' _ => by go_simp⟩) M2.out.c0 ?_
          try simp only [List.getElem_toArray, List.getElem_cons_succ, List.getElem_cons_zero, Act.put, List.setIfInBounds_toArray, List.set_cons_zero, List.set_cons_succ]
          refine anyT_take [9] (i := 3) (v := .int .i64 (f : Int)) rfl (by kernel_rfl) (by kernel_rfl) (by kernel_rfl) (fun _ _ _ h => h) (by kernel_rfl) (Or.inl ⟨by rfl, fun w' _ => by go_simp⟩) M2.out.c0 ?_
          try simp only [List.getElem_toArray, List.getElem_cons_succ, List.getElem_cons_zero, Act.put, List.setIfInBounds_toArray, List.set_cons_zero, List.set_cons_succ]
          refine anyT_take [9] (i := 4) (v := .int .i64 (k : Int)) rfl (by kernel_rfl) (by kernel_rfl) (by kernel_rfl) (fun _ _ _ h => h) (by kernel_rfl) (Or.inl ⟨by rfl, fun w' _ => by go_simp⟩) M2.out.c0 ?_
          try simp only [List.getElem_toArray, List.getElem_cons_succ, List.getElem_cons_zero, Act.put, List.setIfInBounds_toArray, List.set_cons_zero, List.set_cons_succ]
          refine anyT_take [9] (i := 5) (v := .string R) rfl (by kernel_rfl) (by kernel_rfl) (by kernel_rfl) (fun _ _ _ h => h) (by kernel_rfl) (Or.inl ⟨by rfl, fun w' _ => by have e := HR.out; go_simp⟩) M2.out.c0 ?_
          try simp only [List.getElem_toArray, List.getElem_cons_succ, List.getElem_cons_zero, Act.put, List.setIfInBounds_toArray, List.set_cons_zero, List.set_cons_succ]
          refine anyT_take [9] (i := 1) (v := .slice pa n pc) rfl (by kernel_rfl) (by kernel_rfl) (by kernel_rfl) (fun _ _ _ h => h) (by kernel_rfl) (Or.inl ⟨by rfl, fun w' hS => by have c : w'.cell? ⟨w.heap.size + 1, 0, none⟩ = some (.slice pa n pc) := hS; go_simp⟩) M2.out.c0 ?_
          try simp only [List.getElem_toArray, List.getElem_cons_succ, List.getElem_cons_zero, Act.put, List.setIfInBounds_toArray, List.set_cons_zero, List.set_cons_succ]
          refine anyT_one (i := 6) (by kernel_rfl) rfl (fun K hK => ?_)
          rw [if_pos (by rfl)]
          try simp only [List.getElem_toArray, List.getElem_cons_succ, List.getElem_cons_zero]
          (refine wp_str1 (.tmp 31) rfl R rfl ?_; have H28 := Lib.hid (heap_alloc_new w3 (.cells #[.string R] 9)); replace M2 := Lib.hid (M2.out.call (below_alloc w3 (.cells #[.string R] 9))); obtain ⟨g28, hg28⟩ : ∃ g, g = w3.heap.size := ⟨_, rfl⟩; rw [← hg28] at H28 ⊢; clear hg28; generalize w3.alloc (.cells #[.string R] 9) = w5 at *)
          refine hK _ _ (fun _ => M2.out.c0) ?_
          clear hK K
          try simp only [List.getElem_toArray, List.getElem_cons_succ, List.getElem_cons_zero, Act.put, List.setIfInBounds_toArray, List.set_cons_zero, List.set_cons_succ]
          refine anyT_one (i := 7) (by kernel_rfl) rfl (fun K hK => ?_)
          rw [if_pos (by rfl)]
          try simp only [List.getElem_toArray, List.getElem_cons_succ, List.getElem_cons_zero]
          (refine wp_append_ss (.tmp 27) (.tmp 32) rfl rfl (w.heap.size + 2) (.slice pa n pc) (.slice (some ⟨g28, 0, none⟩) 1 1) P [R] rfl M2.out.own rfl (ss_one H28.out) (by have := HNN.out; rw [List.length_singleton]; omega) (hlt14 M2.out.x) ?_; intro v29 w6 ho hgr _; obtain ⟨va, vl, vc, rfl⟩ : ∃ a n c, v29 = .slice a n c := own_sl14 ho; have HP := Lib.hid (M2.out.push hgr ho); clear ho hgr)
          refine hK _ _ (fun _ => cell_of_row _ _ _ _ _ _ HP.out.2) ?_
          clear hK K
          try simp only [List.getElem_toArray, List.getElem_cons_succ, List.getElem_cons_zero, Act.put, List.setIfInBounds_toArray, List.set_cons_zero, List.set_cons_succ]
          refine anyT_take [9] (i := 8) (v := .pointer (some ⟨w.heap.size + 1, 0, none⟩)) rfl (by kernel_rfl) (by kernel_rfl) (by kernel_rfl) (fun _ _ _ h => h) (by kernel_rfl) (Or.inl ⟨by rfl, fun w' _ => by go_simp⟩) (cell_of_row _ _ _ _ _ _ HP.out.2) ?_
          try simp only [List.getElem_toArray, List.getElem_cons_succ, List.getElem_cons_zero, Act.put, List.setIfInBounds_toArray, List.set_cons_zero, List.set_cons_succ]
          refine anyT_one (i := 9) (by kernel_rfl) rfl (fun K hK => ?_)
          rw [if_pos (by rfl)]
          try simp only [List.getElem_toArray, List.getElem_cons_succ, List.getElem_cons_zero]
          (have k1 : w6.cell? ⟨w.heap.size + 1, 0, none⟩ = some (.slice pa n pc) := cell_of_row _ _ _ _ _ _ HP.out.2; have k2 : w6.frozen? ⟨w.heap.size + 1, 0, none⟩ = false := frozen_of_row _ _ _ _ _ HP.out.2; go_simp; clear k1 k2)
          refine hK _ _ (not_mem rfl) ?_
          clear hK K
          try simp only [List.getElem_toArray, List.getElem_cons_succ, List.getElem_cons_zero, Act.put, List.setIfInBounds_toArray, List.set_cons_zero, List.set_cons_succ]
          refine anyT_done (by kernel_rfl) ?_ _
          go_wp2_with (fail)
          go_roundw
          case rel => exact ⟨k + 1, _, by omega, by rw [HN.out] <;> go_num, by rw [HN.out] <;> go_num, by go_num, by rw [HN.out]; exact Lib.hid HP.out.1⟩
          case measure => simp [intOf]; omega
        · rw [if_neg hm2] at HN
          have hrem : ((m : Int) + 1).tmod 2 = 1 := by rw [Int.tmod_eq_emod_of_nonneg (by omega)]; omega
          clear h47 hm2
          go_wp2_with (fail)
          go_roundw
          case rel => exact ⟨k + 1, _, by omega, by rw [HN.out] <;> go_num, by rw [HN.out] <;> go_num, by go_num, by rw [HN.out]; exact HM⟩
          case measure => simp [intOf]; omega
      · have hn47 : ¬ s[k].toNat = 47 := fun h => h47 (by
          have : s[k] = UInt8.ofNat s[k].toNat := by simp
          rw [this, h]; rfl)
        have hc47 : ¬ (s[k].toNat : Int) = 47 := by omega
        rw [if_neg (by simpa using h47)] at HN
        clear h47
        go_wp2_with (fail)
        go_roundw
        case rel => exact ⟨k + 1, _, by omega, by rw [HN.out] <;> go_num, by rw [HN.out] <;> go_num, by go_num, by rw [HN.out]; exact HM⟩
        case measure => simp [intOf]; omega
    · obtain rfl : k = s.size := by omega
      have HX := Lib.hid (show refP s = (rS s s.size).1 ∧ refB s = s.extract (rS s s.size).2.1 s.size from ⟨rfl, rfl⟩)
      have hbf : (rS s s.size).2.1 ≤ s.size := (rS_bounds s s.size).1
      obtain ⟨⟨P, f, m⟩, hr⟩ : ∃ r, r = rS s s.size := ⟨_, rfl⟩
      rw [← hr] at HM HX hbf ⊢
      simp only at HM HX hbf ⊢
      clear hr
      obtain ⟨BB, hBB⟩ : ∃ b, b = s.extract f s.size := ⟨_, rfl⟩
      have HBB := Lib.hid hBB
      rw [← hBB] at HX
      clear hBB
      rw [HX.out.1, HX.out.2] at HFU
      have HRP2 := Lib.hid (show (trE P BB = none ∧ fullR P BB = s ↔ parE s = none) ∧ (trE P BB = none ∧ fullR P BB = s → P = parP s ∧ BB = parB s) from by have h := HRP.out; unfold refOk at h; rwa [HX.out.1, HX.out.2] at h)
      clear HRP HX
      have c1 : (0 : Int) ≤ (f : Int) := by omega
      have c2 : (f : Int) ≤ (s.size : Int) := by omega
      have k1 := HM.out.c1
      have k2 : wr.frozen? ⟨w.heap.size + 1, 1, none⟩ = false := frozen_of_row _ _ _ _ _ HM.out.x
      go_upto_region 12 with (fail)
      rw [← HBB.out]
      have M4 := Lib.hid (HM.out.base BB)
      have HLP := Lib.hid (show P.length ≤ maxLen from by have h := M4.out.own.2; rcases h with ⟨_, h⟩ | ⟨_, _, _, _, _, _, h1, h2, _⟩ <;> omega)
      generalize wr.setCell ⟨w.heap.size + 1, 1, none⟩ (.string BB) = w4 at *
      clear k1 k2 HM c1 c2 hbf
      obtain ⟨n, hn⟩ : ∃ n, n = P.length := ⟨_, rfl⟩
      rw [← hn] at M4 HLP
      have HNN := Lib.hid hn
      clear hn
      obtain ⟨E, hE⟩ : ∃ e, e = trE P BB := ⟨_, rfl⟩
      obtain ⟨X, hX⟩ : ∃ e, e = fullR P BB := ⟨_, rfl⟩
      have HEC := trE_cases P BB
      rw [← hE, ← hX] at HFU HRP2
      rw [← hE] at HEC
      have HBAD := Lib.hid (show ¬ (E = none ∧ X = s) → parE s = some 40 ∧ parP s = [] ∧ parB s = { data := #[] } from fun h => by
        have h1 : parE s = some 40 := HPC.out.resolve_left fun e => h (HRP2.out.1.2 e)
        refine ⟨h1, ?_, ?_⟩
        · unfold parP; rw [h1]; rfl
        · unfold parB; rw [h1]; rfl)
      have HOK := Lib.hid (show E = none ∧ X = s → parE s = none ∧ parP s = P ∧ parB s = BB from fun h => ⟨HRP2.out.1.1 h, (HRP2.out.2 h).1.symm, (HRP2.out.2 h).2.symm⟩)
      have HSS := Lib.hid (show SsIn w4 (.slice pa n pc) P from ss_own M4.out.own (by rw [← HNN.out]; exact HLP.out))
      clear hE hX HRP2 HPC
      rcases HEC with rfl | rfl | rfl
      · by_cases hne : X = s
        · subst hne
          obtain ⟨e1, e2, e3⟩ := HOK.out ⟨rfl, rfl⟩
          have k1 : (X.toList == X.toList) = true := by simp
          clear HOK HBAD
          go_wp2_with (first
            | (refine wpList_load_row rfl 62 (.tmp 4) rfl (w.heap.size + 1) rfl 62 _ (0, 0) _ (by first | exact M4.out.x | exact M5.out.x) Tryz.underlying62 rfl (by kernel_rfl) ?_)
            | (go_at_call 32; (with_reducible refine (HFU.out _ _ HSS.out).mono ?_); rintro e w5 ⟨rfl, hb⟩; have M5 := Lib.hid (M4.out.call hb); replace HSS := Lib.hid (HSS.out.below hb); clear hb; simp only [numE])
            | (refine wpList_store_row rfl 62 (.tmp 2) (.tmp 54) rfl w.heap.size (trC (.slice pa n pc) BB) rfl rfl 62 _ M5.out.res (by kernel_rfl) (by rfl) (trC_one _ _ _ _) ?_))
          refine bodyPost_ret (results_cell_tmp_row rfl _ _ w.heap.size 62 _ (0, 0) _ rfl (setRow_heap _ _ _ _ _ _ M5.out.res) Tryz.underlying62 rfl (by kernel_rfl)) rfl ?_
          exact ⟨_, by rw [e1, e3]; rfl, by rw [e2]; exact HSS.out.only (only_setRow14 _ _ _) (fun k hk => by have := (M5.out.own.lt k hk).1; omega), M5.out.ret _ _⟩
        · have k1 : (X.toList == s.toList) = false := by rw [beq14, decide_eq_false_iff_not]; exact hne
          obtain ⟨e1, e2, e3⟩ := HBAD.out (fun h => hne h.2)
          clear HOK HBAD
          go_wp2_with (first
            | (refine wpList_load_row rfl 62 (.tmp 4) rfl (w.heap.size + 1) rfl 62 _ (0, 0) _ M4.out.x Tryz.underlying62 rfl (by kernel_rfl) ?_)
            | (go_at_call 32; (with_reducible refine (HFU.out _ _ HSS.out).mono ?_); rintro e w5 ⟨rfl, hb⟩; have M5 := Lib.hid (M4.out.call hb); clear hb; simp only [numE])
            | (refine wpList_store_row rfl 62 (.tmp 2) (.tmp 53) rfl w.heap.size (trC (.slice none 0 0) { data := #[] }) rfl rfl 62 _ M5.out.res (by kernel_rfl) (by rfl) (trC_one _ _ _ _) ?_))
          refine bodyPost_ret (results_cell_tmp_row rfl _ _ w.heap.size 62 _ (0, 0) _ rfl (setRow_heap _ _ _ _ _ _ M5.out.res) Tryz.underlying62 rfl (by kernel_rfl)) rfl ?_
          exact ⟨_, by rw [e1, e3]; rfl, by rw [e2]; exact ss_nil _, M5.out.ret _ _⟩
      · obtain ⟨e1, e2, e3⟩ := HBAD.out (by simp)
        clear HOK HBAD
        go_wp2_with (first
          | (refine wpList_load_row rfl 62 (.tmp 4) rfl (w.heap.size + 1) rfl 62 _ (0, 0) _ M4.out.x Tryz.underlying62 rfl (by kernel_rfl) ?_)
          | (go_at_call 32; (with_reducible refine (HFU.out _ _ HSS.out).mono ?_); rintro e w5 ⟨rfl, hb⟩; have M5 := Lib.hid (M4.out.call hb); clear hb; simp only [numE])
          | (refine wpList_store_row rfl 62 (.tmp 2) (.tmp 53) rfl w.heap.size (trC (.slice none 0 0) { data := #[] }) rfl rfl 62 _ M5.out.res (by kernel_rfl) (by rfl) (trC_one _ _ _ _) ?_))
        refine bodyPost_ret (results_cell_tmp_row rfl _ _ w.heap.size 62 _ (0, 0) _ rfl (setRow_heap _ _ _ _ _ _ M5.out.res) Tryz.underlying62 rfl (by kernel_rfl)) rfl ?_
        exact ⟨_, by rw [e1, e3]; rfl, by rw [e2]; exact ss_nil _, M5.out.ret _ _⟩
      · obtain ⟨e1, e2, e3⟩ := HBAD.out (by simp)
        clear HOK HBAD
        go_wp2_with (first
          | (refine wpList_load_row rfl 62 (.tmp 4) rfl (w.heap.size + 1) rfl 62 _ (0, 0) _ M4.out.x Tryz.underlying62 rfl (by kernel_rfl) ?_)
          | (go_at_call 32; (with_reducible refine (HFU.out _ _ HSS.out).mono ?_); rintro e w5 ⟨rfl, hb⟩; have M5 := Lib.hid (M4.out.call hb); clear hb; simp only [numE])
          | (refine wpList_store_row rfl 62 (.tmp 2) (.tmp 53) rfl w.heap.size (trC (.slice none 0 0) { data := #[] }) rfl rfl 62 _ M5.out.res (by kernel_rfl) (by rfl) (trC_one _ _ _ _) ?_))
        refine bodyPost_ret (results_cell_tmp_row rfl _ _ w.heap.size 62 _ (0, 0) _ rfl (setRow_heap _ _ _ _ _ _ M5.out.res) Tryz.underlying62 rfl (by kernel_rfl)) rfl ?_
        exact ⟨_, by rw [e1, e3]; rfl, by rw [e2]; exact ss_nil _, M5.out.ret _ _⟩
end Go.Proofs.YteokgklfljhcaaaGreatDoor

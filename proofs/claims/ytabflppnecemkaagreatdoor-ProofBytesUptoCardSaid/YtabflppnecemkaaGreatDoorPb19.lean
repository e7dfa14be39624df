/- Part 19 of the proof. -/
import Derived.Test.YtabflppnecemkaaGreatDoorPb18
namespace Go.Proofs.YtabflppnecemkaaGreatDoor
set_option linter.unusedVariables false
set_option linter.unusedSimpArgs false
open Go.RowKit
set_option maxRecDepth 100000
set_option linter.unusedSimpArgs false
set_option linter.unusedVariables false
theorem gb_refl (w : World) (r : Option Nat) : w.grownBy w r := ⟨rfl, rfl, rfl, Nat.le_refl _, fun _ _ _ => rfl⟩
theorem gb_step {ws w w' : World} {g : Nat} {r : Option Nat} (h : ws.grownBy w (some g)) (k : w.grownBy w' r) (hr : ∀ j, r = some j → ws.heap.size ≤ j ∨ j = g) : ws.grownBy w' (some g) :=
  ⟨k.os.trans h.os, k.tape.trans h.tape, k.output.trans h.output, Nat.le_trans h.size k.size, fun j hj hne => (k.block j (Nat.lt_of_lt_of_le hj h.size) (fun e => by
    rcases hr j e.symm with h1 | h1
    · omega
    · exact hne (by rw [h1]))).trans (h.block j hj hne)⟩
theorem gb_below {w w' : World} (h : Below w.heap.size w w') : w.grownBy w' none := ⟨h.os, h.tape, h.output, h.size, fun k hk _ => h.block k hk⟩
theorem gb_set (w : World) (g i : Nat) (v : Value) : w.grownBy (w.setCell ⟨g, i, none⟩ v) (some g) := by
  refine ⟨?_, ?_, ?_, Nat.le_of_eq (setCell_size w _ v).symm, fun k hk hne => heap_setCell_other _ _ _ _ (fun e => hne (by rw [e]))⟩
  all_goals unfold World.setCell; split <;> rfl
theorem own_stay {w w' : World} {base n m : Nat} {ty : TypeId} {v : Value} {vs : List Value} (h : w.ownsRow base ty n v m vs) (hw : ∀ k, v.ownBlock = some k → w'.heap[k]? = w.heap[k]?) : w'.ownsRow base ty n v m vs :=
  ⟨h.1, h.2.imp id fun ⟨g, cap, cur, e, hg, hh, r⟩ => ⟨g, cap, cur, e, hg, (hw g (by rw [e]; rfl)).trans hh, r⟩⟩
theorem own_slice {w : World} {base n m : Nat} {ty : TypeId} {v : Value} {vs : List Value} (h : w.ownsRow base ty n v m vs) : ∃ a c, v = .slice a m c := by
  rcases h.2 with ⟨h, h0⟩ | ⟨g, cap, _, h, _⟩
  · exact ⟨none, 0, by rw [h, h0]⟩
  · exact ⟨_, _, h⟩
theorem own_type {w : World} {base n m : Nat} {ty : TypeId} {v : Value} {vs : List Value} (h : w.ownsRow base ty n v m vs) {k : Nat} (hk : v.ownBlock = some k) : ∃ cs, w.heap[k]? = some (.cells cs ty (0, 0)) := by
  rcases h.2 with ⟨rfl, _⟩ | ⟨g, cap, cur, rfl, hg, hh, _⟩
  · cases hk
  · injection hk with hk; subst hk; exact ⟨_, hh⟩
theorem own_ge {w : World} {base n m : Nat} {ty : TypeId} {v : Value} {vs : List Value} (h : w.ownsRow base ty n v m vs) {j : Nat} (hj : v.ownBlock = some j) : base ≤ j := by
  rcases h.2 with ⟨rfl, _⟩ | ⟨g, cap, cur, rfl, hg, _⟩
  · cases hj
  · injection hj with hj; subst hj; exact hg
/-- rows of two types lie in two blocks -/
theorem own_two {w w' : World} {b1 b2 n1 n2 m1 m2 : Nat} {t1 t2 : TypeId} {v1 v2 : Value} {x1 x2 : List Value} (h : w.ownsRow b1 t1 n1 v1 m1 x1) (k : w.ownsRow b2 t2 n2 v2 m2 x2) (ht : t1 ≠ t2) (hg : w.grownBy w' v2.ownBlock) : w'.ownsRow b1 t1 n1 v1 m1 x1 :=
  own_stay h fun j hj => by
    obtain ⟨cs, hc⟩ := own_type h hj
    refine hg.block j (Array.getElem?_eq_some_iff.1 hc).1 (fun e => ?_)
    obtain ⟨cs2, hc2⟩ := own_type k e.symm
    rw [hc] at hc2
    injection hc2 with hc2
    injection hc2 with _ hc2 _
    exact ht hc2
theorem pr_row_built (k v : ByteArray) : Tryz.prog.built 31 [(0, .string k), (1, .string v)] = some #[.string k, .string v, .slice none 0 0] := by kernel_rfl
def gvW (w : World) (P : PvP) (sv : Value) : World := ((w.alloc (.cells (prC P sv) 24)).alloc (.cells prZ 31)).alloc (.cells #[.string P.key, .string P.val, .slice none 0 0] 31)
theorem gvW_at (w : World) (P : PvP) (sv : Value) : (gvW w P sv).heap[w.heap.size]? = some (.cells (prC P sv) 24 (0, 0)) ∧ (gvW w P sv).heap[w.heap.size + 1]? = some (.cells prZ 31 (0, 0)) ∧ (gvW w P sv).heap[w.heap.size + 1 + 1]? = some (.cells #[.string P.key, .string P.val, .slice none 0 0] 31 (0, 0)) ∧ Below w.heap.size w (gvW w P sv) ∧ (gvW w P sv).heap.size = w.heap.size + 3 := by
  unfold gvW
  refine ⟨?_, ?_, ?_, (((Below.refl _ w).alloc (Nat.le_refl _) _).alloc (by simp) _).alloc (by simp; omega) _, by simp⟩
  · rw [heap_alloc_old _ _ (by simp; omega), heap_alloc_old _ _ (by simp), heap_alloc_new]
  · rw [heap_alloc_old _ _ (by simp)]
    have := heap_alloc_new (w.alloc (.cells (prC P sv) 24)) (.cells prZ 31)
    rw [size_alloc] at this; exact this
  · have := heap_alloc_new ((w.alloc (.cells (prC P sv) 24)).alloc (.cells prZ 31)) (.cells #[.string P.key, .string P.val, .slice none 0 0] 31)
    rw [size_alloc, size_alloc] at this; exact this
theorem flatSt_snoc (S : List AvS) (k : Nat) (s : AvS) (h : S[k]? = some s) : S.take (k + 1) = S.take k ++ [s] := by rw [List.take_add_one, h]; rfl
theorem own_base {w : World} {B B' n m : Nat} {ty : TypeId} {v : Value} {vs : List Value} (h : w.ownsRow B ty n v m vs) (hb : B' ≤ B) : w.ownsRow B' ty n v m vs :=
  ⟨h.1, h.2.imp id fun ⟨g, cap, cur, e, hg, r⟩ => ⟨g, cap, cur, e, Nat.le_trans hb hg, r⟩⟩
def GvRel (ws : World) (g3 : Nat) (P : PvP) (S : List AvS) (x : Value) (wr : World) : Prop :=
  ∃ (k : Nat) (v : Value), k ≤ S.length ∧ x = .int .i64 (k : Int) ∧ Hid (ws.grownBy wr (some g3)) ∧ Hid (wr.heap[g3]? = some (.cells #[.string P.key, .string P.val, v] 31 (0, 0))) ∧ Hid (wr.ownsRow ws.heap.size 65 34 v (S.take k).length (flatSt (S.take k)))
def GivePost (P : PvP) (w : World) (e : Ending) (w' : World) : Prop := ∃ sa c, e = .returned (.agg (prC P (.slice sa P.steps.length c))) ∧ w'.ownsRow w.heap.size 65 34 (.slice sa P.steps.length c) P.steps.length (flatSt P.steps) ∧ Below w.heap.size w w'
set_option maxHeartbeats 8000000 in
theorem give_any (P : PvP) (sv : Value) (w : World) (hst : StIn w sv P.steps) (hz : P.steps.length ≤ 1048576) : Calls Tryz.prog 9 #[.agg (prC P sv)] w (GivePost P w) := by
  obtain ⟨va, vc, rfl⟩ := hst.len
  obtain ⟨x1, x2, x3, x4, x5⟩ := gvW_at w P (.slice va P.steps.length vc)
  have HST := Lib.hid hst
  have HB0 := Lib.hid x4
  have HZ := Lib.hid x5
  have H1 := Lib.hid x1
  have H2 := Lib.hid x2
  have H3 := Lib.hid x3
  obtain ⟨S, hS⟩ : ∃ S, S = P.steps := ⟨_, rfl⟩
  have HS := Lib.hid hS
  unfold GivePost
  have hbu := pr_row_built P.key P.val
  have k0 : (w.alloc (.cells (prC P (.slice va P.steps.length vc)) 24)).alloc (.cells #[.string { data := #[] }, .string { data := #[] }, .slice none 0 0] 31) = (w.alloc (.cells (prC P (.slice va P.steps.length vc)) 24)).alloc (.cells prZ 31) := rfl
  have m1 : ((w.alloc (.cells (prC P (.slice va P.steps.length vc)) 24)).alloc (.cells prZ 31)).heap[w.heap.size]? = some (.cells (prC P (.slice va P.steps.length vc)) 24 (0, 0)) := two_start.1
  have HW := Lib.hid (show gvW w P (.slice va P.steps.length vc) = ((w.alloc (.cells (prC P (.slice va P.steps.length vc)) 24)).alloc (.cells prZ 31)).alloc (.cells #[.string P.key, .string P.val, .slice none 0 0] 31) from rfl)
  have HSZ := Lib.hid (show ((w.alloc (.cells (prC P (.slice va P.steps.length vc)) 24)).alloc (.cells prZ 31)).heap.size = w.heap.size + 1 + 1 from by simp)
  clear hst x1 x2 x3 x4 x5
  go_enter Tryz.func9, Tryz.ntmps9
  go_upto_region 1 with (fail)
  try rw [k0]
  clear k0
  generalize (w.alloc (.cells (prC P (.slice va P.steps.length vc)) 24)).alloc (.cells prZ 31) = w1 at *
  have c0 : w1.cell? ⟨w.heap.size, 0, none⟩ = some (.string P.key) := cell_of_row _ _ 0 _ _ _ m1
  have c1 : w1.cell? ⟨w.heap.size, 1, none⟩ = some (.string P.val) := cell_of_row _ _ 1 _ _ _ m1
  clear m1
  go_upto_region 2 with (first
    | (refine wpList_store_row rfl 31 (.tmp 3) (.tmp 9) rfl w1.heap.size #[.string P.key, .string P.val, .slice none 0 0] rfl rfl 31 _ (heap_alloc_new _ _) (by kernel_rfl) rfl (by simp [Value.oneCell']) ?_; rw [World.setRow_alloc_new]))
  rw [← HW.out, HSZ.out]
  clear c0 c1 hbu HW HSZ
  obtain ⟨ws, hws⟩ : ∃ ws, ws = gvW w P (.slice va P.steps.length vc) := ⟨_, rfl⟩
  rw [← hws] at HB0 HZ H1 H2 H3 ⊢
  clear hws
  obtain ⟨g3, hg3⟩ : ∃ g, g = w.heap.size + 1 + 1 := ⟨_, rfl⟩
  have HG3 := Lib.hid hg3
  rw [← hg3] at H3 ⊢
  clear hg3
  have HGB := Lib.hid (gb_refl ws (some g3))
  have HO := Lib.hid (show ws.ownsRow ws.heap.size 65 34 (.slice none 0 0) (S.take 0).length (flatSt (S.take 0)) from World.ownsRow_nil _ _ _ _)
  have hlenS : S.length ≤ 1048576 := by rw [hS]; exact hz
  clear hS hz
  have cs : ws.cell? ⟨w.heap.size, 2, none⟩ = some (.slice va S.length vc) := by rw [HS.out]; exact cell_of_row _ _ 2 _ _ _ H1.out
  clear cs
  go_wp2_with (fail)
  go_loopw [4] (fun x wr => GvRel ws g3 P S x wr) (fun x _ => S.length - (intOf x).toNat)
  case atStart => unfold GvRel; exact ⟨0, _, Nat.zero_le _, rfl, HGB, H3, HO⟩
  case round =>
    clear HGB HO
    obtain ⟨k, v, hkl, rfl, HGB, H3', HO⟩ := hrel
    have HB := Lib.hid (HB0.out.grown HGB.out (by rw [HZ.out]; omega) (fun j hj => by injection hj with hj; rw [← hj, HG3.out]; omega))
    have H1' := Lib.hid ((HGB.out.block w.heap.size (by rw [HZ.out]; omega) (fun e => by injection e with e; rw [HG3.out] at e; omega)).trans H1.out)
    have H2' := Lib.hid ((HGB.out.block (w.heap.size + 1) (by rw [HZ.out]; omega) (fun e => by injection e with e; rw [HG3.out] at e; omega)).trans H2.out)
    obtain ⟨ua, uc, rfl⟩ := own_slice HO.out
    have cs : wr.cell? ⟨w.heap.size, 2, none⟩ = some (.slice va S.length vc) := by rw [HS.out]; exact cell_of_row _ _ 2 _ _ _ H1'.out
    by_cases hlt : k < S.length
    · obtain ⟨s, hs⟩ : ∃ s, S[k]? = some s := ⟨S[k], List.getElem?_eq_getElem hlt⟩
      obtain ⟨ab, ao, c', e1, hab, hra⟩ := st_in_range (HST.out.below HB.out) (by rw [← HS.out]; exact hs)
      injection e1 with e1 _ _
      subst e1
      have hltI : (k : Int) < (S.length : Int) := by omega
      have cu : wr.cell? ⟨g3, 2, none⟩ = some (.slice ua (S.take k).length uc) := cell_of_row _ _ 2 _ _ _ H3'.out
      have HSN := Lib.hid (flatSt_snoc S k s hs)
      have htl : (S.take k).length = k := by rw [List.length_take]; omega
      have HTL := Lib.hid htl
      have HLE := Lib.hid (show (S.take k ++ [s]).length = k + 1 by rw [List.length_append, htl]; rfl)
      rw [htl] at cu
      have HALL := Lib.hid (⟨⟨cu, cs⟩, (show wr.rangeAt ab (ao + k * 34) (stC s).toList from hra)⟩ : (wr.cell? ⟨g3, 2, none⟩ = some (.slice ua k uc) ∧ wr.cell? ⟨w.heap.size, 2, none⟩ = some (.slice (some ⟨ab, ao, none⟩) S.length vc)) ∧ wr.rangeAt ab (ao + k * 34) (stC s).toList)
      have HAB := Lib.hid hab
      clear hs hra hab cu htl
      go_upto_region 5 with (fail)
      clear cs
      refine wp_region_T (fun w' => (w'.cell? ⟨g3, 2, none⟩ = some (.slice ua k uc) ∧ w'.cell? ⟨w.heap.size, 2, none⟩ = some (.slice (some ⟨ab, ao, none⟩) S.length vc)) ∧ w'.rangeAt ab (ao + k * 34) (stC s).toList) [1, 3, 5, 6, 7] (by kernel_rfl) ?_
      have hdr : Below wr.heap.size wr wr.drew := (Below.refl _ _).drew
      replace HALL := Lib.hid (show (wr.drew.cell? ⟨g3, 2, none⟩ = some (.slice ua k uc) ∧ wr.drew.cell? ⟨w.heap.size, 2, none⟩ = some (.slice (some ⟨ab, ao, none⟩) S.length vc)) ∧ wr.drew.rangeAt ab (ao + k * 34) (stC s).toList from HALL.out)
      replace HGB := Lib.hid (gb_step HGB.out (gb_below hdr) (fun j hj => by cases hj))
      replace H3' := Lib.hid ((hdr.block _ (bk_lt H3'.out)).trans H3'.out)
      replace HO := Lib.hid (own_stay HO.out (w' := wr.drew) fun j hj => rfl)
      replace HAB := Lib.hid (show ab < wr.drew.heap.size from HAB.out)
      clear hdr HB H1' H2'
      generalize wr.drew = w2 at *
      have hbn := below_alloc w2 (.cells (stC s) 65)
      have HALL2 := Lib.hid (show ((w2.alloc (.cells (stC s) 65)).cell? ⟨g3, 2, none⟩ = some (.slice ua k uc) ∧ (w2.alloc (.cells (stC s) 65)).cell? ⟨w.heap.size, 2, none⟩ = some (.slice (some ⟨ab, ao, none⟩) S.length vc)) ∧ (w2.alloc (.cells (stC s) 65)).rangeAt ab (ao + k * 34) (stC s).toList from
        ⟨⟨(hbn.cell (p := ⟨g3, 2, none⟩) (World.block_lt_of_cell? _ _ HALL.out.1.1)).trans HALL.out.1.1, (hbn.cell (p := ⟨w.heap.size, 2, none⟩) (World.block_lt_of_cell? _ _ HALL.out.1.2)).trans HALL.out.1.2⟩, range_below HALL.out.2 hbn HAB.out⟩)
      replace HGB := Lib.hid (gb_step HGB.out (gb_below hbn) (fun j hj => by cases hj))
      have H3n := Lib.hid ((hbn.block _ (bk_lt H3'.out)).trans H3'.out)
      have HOn := Lib.hid (HO.out.alloc (.cells (stC s) 65))
      rw [HTL.out] at HOn
      clear hbn HO H3'
      refine anyT_takeY (i := 0) (v := .pointer (some ⟨g3, 2, none⟩)) rfl (by kernel_rfl) (by kernel_rfl) (by kernel_rfl) (fun _ _ _ h => h) (by kernel_rfl) (Or.inl ⟨by rfl, by intro w; go_simp⟩) ?_
      try simp only [List.getElem_toArray, List.getElem_cons_succ, List.getElem_cons_zero, Act.put, List.setIfInBounds_toArray, List.set_cons_zero, List.set_cons_succ]
      refine anyT_takeY (i := 2) (v := .pointer (some ⟨w.heap.size, 2, none⟩)) rfl (by kernel_rfl) (by kernel_rfl) (by kernel_rfl) (fun _ _ _ h => h) (by kernel_rfl) (Or.inl ⟨by rfl, by intro w; go_simp⟩) ?_
      try simp only [List.getElem_toArray, List.getElem_cons_succ, List.getElem_cons_zero, Act.put, List.setIfInBounds_toArray, List.set_cons_zero, List.set_cons_succ]
      refine anyT_takeY (i := 4) (v := .int .i64 (k : Int)) rfl (by kernel_rfl) (by kernel_rfl) (by kernel_rfl) (fun _ _ _ h => h) (by kernel_rfl) (Or.inl ⟨by rfl, by intro w; go_simp⟩) ?_
      try simp only [List.getElem_toArray, List.getElem_cons_succ, List.getElem_cons_zero, Act.put, List.setIfInBounds_toArray, List.set_cons_zero, List.set_cons_succ]
      refine anyT_take [8, 9, 10] (i := 1) (v := .slice ua k uc) rfl (by kernel_rfl) (by kernel_rfl) (by kernel_rfl) (fun _ _ _ h => h) (by kernel_rfl) (Or.inl ⟨by rfl, fun w' hS => by have c := hS.1.1; go_simp⟩) HALL.out ?_
      try simp only [List.getElem_toArray, List.getElem_cons_succ, List.getElem_cons_zero, Act.put, List.setIfInBounds_toArray, List.set_cons_zero, List.set_cons_succ]
      refine anyT_take [5, 6, 7, 8, 9, 10] (i := 3) (v := .slice (some ⟨ab, ao, none⟩) S.length vc) rfl (by kernel_rfl) (by kernel_rfl) (by kernel_rfl) (fun _ _ _ h => h) (by kernel_rfl) (Or.inl ⟨by rfl, fun w' hS => by have c := hS.1.2; go_simp⟩) HALL.out ?_
      try simp only [List.getElem_toArray, List.getElem_cons_succ, List.getElem_cons_zero, Act.put, List.setIfInBounds_toArray, List.set_cons_zero, List.set_cons_succ]
      refine anyT_take [6, 7, 8, 9, 10] (i := 5) (v := .pointer (some ⟨ab, ao + k * 34, none⟩)) rfl (by kernel_rfl) (by kernel_rfl) (by kernel_rfl) (fun _ _ _ h => h) (by kernel_rfl) (Or.inl ⟨by rfl, fun w' _ => by go_simp⟩) HALL.out ?_
      try simp only [List.getElem_toArray, List.getElem_cons_succ, List.getElem_cons_zero, Act.put, List.setIfInBounds_toArray, List.set_cons_zero, List.set_cons_succ]
      refine anyT_take [7, 8, 9, 10] (i := 6) (v := .agg (stC s)) rfl (by kernel_rfl) (by kernel_rfl) (by kernel_rfl) (fun _ _ _ h => h) (by kernel_rfl) (row_yields' (by rfl) 74 (.tmp 22) rfl ab (ao + k * 34) rfl _ _ (fun _ h => h.2) Tryz.underlying74 rfl (by rw [stC_size]; kernel_rfl)) HALL.out ?_
      try simp only [List.getElem_toArray, List.getElem_cons_succ, List.getElem_cons_zero, Act.put, List.setIfInBounds_toArray, List.set_cons_zero, List.set_cons_succ]
      refine anyT_one (i := 7) (by kernel_rfl) rfl (fun K hK => ?_)
      rw [if_pos (by rfl)]
      try simp only [List.getElem_toArray, List.getElem_cons_succ, List.getElem_cons_zero]
      (refine wp_step1 (.tmp 23) rfl s rfl ?_)
      refine hK _ _ (fun _ => HALL2.out) ?_
      clear hK K
      try simp only [List.getElem_toArray, List.getElem_cons_succ, List.getElem_cons_zero, Act.put, List.setIfInBounds_toArray, List.set_cons_zero, List.set_cons_succ]
      refine anyT_one (i := 8) (by kernel_rfl) rfl (fun K hK => ?_)
      rw [if_pos (by rfl)]
      try simp only [List.getElem_toArray, List.getElem_cons_succ, List.getElem_cons_zero]
      (refine wp_append_step (.tmp 18) (.tmp 24) rfl rfl ws.heap.size (.slice ua k uc) (S.take k) rfl (by rw [HTL.out]; exact HOn.out) w2.heap.size s rfl (heap_alloc_new w2 _) (by rw [HTL.out]; omega) (by have := HGB.out.size; exact this) ?_; intro v8 w8 ho hgr; obtain ⟨xa, xc, rfl⟩ := own_slice ho; rw [HLE.out] at ho; have HO8 := Lib.hid ho; have HGB8 := Lib.hid (gb_step HGB.out hgr (fun j hj => .inl (own_ge HOn.out hj))); have H38 := Lib.hid ((hgr.block g3 (bk_lt H3n.out) (fun e => by have := own_ge HOn.out e.symm; rw [HZ.out, HG3.out] at this; omega)).trans H3n.out); clear ho hgr)
      refine hK _ _ (not_mem rfl) ?_
      clear hK K
      try simp only [List.getElem_toArray, List.getElem_cons_succ, List.getElem_cons_zero, Act.put, List.setIfInBounds_toArray, List.set_cons_zero, List.set_cons_succ]
      refine anyT_takeY (i := 9) (v := .pointer (some ⟨g3, 2, none⟩)) rfl (by kernel_rfl) (by kernel_rfl) (by kernel_rfl) (fun _ _ _ h => h) (by kernel_rfl) (Or.inl ⟨by rfl, by intro w; go_simp⟩) ?_
      try simp only [List.getElem_toArray, List.getElem_cons_succ, List.getElem_cons_zero, Act.put, List.setIfInBounds_toArray, List.set_cons_zero, List.set_cons_succ]
      refine anyT_one (i := 10) (by kernel_rfl) rfl (fun K hK => ?_)
      rw [if_pos (by rfl)]
      try simp only [List.getElem_toArray, List.getElem_cons_succ, List.getElem_cons_zero]
      (have k1 : w8.cell? ⟨g3, 2, none⟩ = some (.slice ua (S.take k).length uc) := cell_of_row _ _ 2 _ _ _ H38.out; have k2 : w8.frozen? ⟨g3, 2, none⟩ = false := frozen_of_row _ _ _ _ _ H38.out; go_simp; clear k1 k2)
      refine hK _ _ (not_mem rfl) ?_
      clear hK K
      try simp only [List.getElem_toArray, List.getElem_cons_succ, List.getElem_cons_zero, Act.put, List.setIfInBounds_toArray, List.set_cons_zero, List.set_cons_succ]
      refine anyT_done (by kernel_rfl) ?_ _
      have HGB9 := Lib.hid (gb_step HGB8.out (gb_set w8 g3 2 (.slice xa (k + 1) xc)) (fun j hj => .inr (by injection hj with hj; exact hj.symm)))
      have H39 := Lib.hid (show (w8.setCell ⟨g3, 2, none⟩ (.slice xa (k + 1) xc)).heap[g3]? = some (.cells #[.string P.key, .string P.val, .slice xa (k + 1) xc] 31 (0, 0)) from heap_setCell_same _ g3 2 _ _ _ H38.out)
      have HO9 := Lib.hid (own_stay HO8.out (w' := w8.setCell ⟨g3, 2, none⟩ (.slice xa (k + 1) xc)) fun j hj => heap_setCell_other _ _ _ _ (fun e => by have := own_ge HO8.out hj; rw [e, HZ.out] at this; have h2 := HG3.out; simp only at this; omega))
      clear HGB8 H38 HO8 HGB H3n HOn HALL HALL2
      generalize w8.setCell ⟨g3, 2, none⟩ (.slice xa (k + 1) xc) = w9 at *
      go_wp2_with (fail)
      go_roundw
      case rel => unfold GvRel; exact ⟨k + 1, .slice xa (k + 1) xc, by omega, by go_num, HGB9, H39, by rw [HSN.out, HLE.out]; exact HO9⟩
      case measure => simp [intOf]; omega
    · obtain rfl : k = S.length := by omega
      have htl : S.take S.length = S := List.take_length
      rw [htl] at HO H3'
      have HF := Lib.hid (show prC P (.slice ua P.steps.length uc) = #[.string P.key, .string P.val, .slice ua S.length uc] from by rw [HS.out]; rfl)
      have HO2 := Lib.hid (show wr.ownsRow w.heap.size 65 34 (.slice ua P.steps.length uc) P.steps.length (flatSt P.steps) from by rw [← HS.out]; exact own_base HO.out (by rw [HZ.out]; omega))
      clear htl hlt hkl
      go_wp2_with (first
        | (refine wpList_load_row rfl 31 (.tmp 3) rfl g3 rfl 31 _ (0, 0) _ H3'.out Tryz.underlying31 rfl (by kernel_rfl) ?_)
        | (refine wpList_store_row rfl 31 (.tmp 2) (.tmp 27) rfl (w.heap.size + 1) #[.string P.key, .string P.val, .slice ua S.length uc] rfl rfl 31 _ H2'.out (by kernel_rfl) rfl (by simp [Value.oneCell']) ?_))
      refine bodyPost_ret (results_cell_row rfl _ _ (w.heap.size + 1) 31 #[.string P.key, .string P.val, .slice ua S.length uc] (0, 0) _ rfl (setRow_heap _ _ _ _ _ _ H2'.out) Tryz.underlying31 rfl (by kernel_rfl)) rfl ?_
      refine ⟨ua, uc, by rw [HF.out], ?_, below_setRow HB.out (by omega) _⟩
      refine own_stay HO2.out fun j hj => setRow_other _ _ _ _ (fun e => ?_)
      have h2 := own_ge HO.out (j := j) (by cases ua with | none => cases hj | some a => exact hj)
      rw [HZ.out] at h2
      omega
end Go.Proofs.YtabflppnecemkaaGreatDoor

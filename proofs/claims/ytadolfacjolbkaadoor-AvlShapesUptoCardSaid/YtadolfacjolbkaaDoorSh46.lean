/- Part 46 of the proof. -/
import Derived.Test.YtadolfacjolbkaaDoorSh43
import Derived.Test.YtadolfacjolbkaaDoorSh45
namespace Go.Proofs.YtadolfacjolbkaaDoor
set_option linter.unusedVariables false
set_option linter.unusedSimpArgs false
open Go.RowKit
set_option maxRecDepth 100000
set_option linter.unusedSimpArgs false
set_option linter.unusedVariables false
def GrPost (N : Nat) (w : World) (e : Ending) (w' : World) : Prop := ∃ v cs t, e = .returned (.tuple #[v, .agg cs]) ∧ TreeO w' v t ∧ RO w' cs t ∧ GT N 60 t ∧ Below w.heap.size w w'
set_option maxHeartbeats 8000000 in
theorem grown_any (va : Value) (ts : List AvA) (N : Nat) (w : World) (he : Env w) (hx : AvActs w va ts) (hk : ∀ t ∈ ts, t.kOk) (hs : ∀ t ∈ ts, t.key.size + t.val.size ≤ N) (hN : N ≤ 1048576) :
    Calls Tryd.prog 6 #[va] w (GrPost N w) := by
  obtain ⟨a, cap, rfl⟩ := hx.len
  have HX := Lib.hid hx
  have HE := Lib.hid he
  have HKO := Lib.hid hk
  have HS := Lib.hid hs
  have HNB := Lib.hid hN
  have hlen : ts.length ≤ maxLen := by obtain ⟨_, _, e, _, hm, _⟩ := hx; exact hm
  unfold maxLen at hlen
  have M := Lib.hid (gm_start w)
  have G := Lib.hid (GT.none N)
  clear hx he hk hs hN
  unfold GrPost
  go_enter Tryd.func6, Tryd.ntmps6
  go_upto_region 3 with (refine wpList_store_row rfl 29 (.tmp 5) (.tmp 7) rfl (w.heap.size + 1) zR rfl rfl 29 _ M.out.blk (by kernel_rfl) rfl (by simp [zR, Value.oneCell']) ?_)
  replace M := Lib.hid (M.out.put (new := zR) (r2 := none) rfl)
  have e0 : ((w.alloc (.cells #[.bool false, .string { data := #[] }, .string { data := #[] }, .slice none 0 0] 29)).alloc (.cells #[.bool false, .string { data := #[] }, .string { data := #[] }, .slice none 0 0] 29)).setRow (w.heap.size + 1) zR = ((w.alloc (.cells zR 29)).alloc (.cells zR 29)).setRow (w.heap.size + 1) zR := rfl
  rw [e0]
  clear e0
  generalize ((w.alloc (.cells zR 29)).alloc (.cells zR 29)).setRow (w.heap.size + 1) zR = w1 at *
  go_wp2_with (fail)
  go_loopw [4, 6] (fun v4 y wr => ∃ (k : Nat) (cs : Array Value) (t : Option AvT), k ≤ 60 ∧ k ≤ ts.length ∧ y = .int .i64 (k : Int) ∧ Hid (GM w wr v4 cs t t) ∧ Hid (GT N k t)) (fun _ y _ => 60 - (intOf y).toNat)
  case atStart => exact ⟨0, _, _, by omega, by omega, rfl, M, G⟩
  case round =>
    clear M G
    clear w1
    obtain ⟨k, cs, t, hk60, hkl, rfl, M, G⟩ := hrel
    have csZ := Lib.hid M.out.ro.size
    have csO := Lib.hid M.out.ro.one
    have HTB := Lib.hid (show manyO t ≤ 60 from Nat.le_trans G.out.many hk60)
    by_cases hlt : k < ts.length ∧ k < 60
    · obtain ⟨hlt1, hlt2⟩ := hlt
      obtain ⟨x, hx⟩ : ∃ x, ts[k]? = some x := ⟨ts[k], List.getElem?_eq_getElem hlt1⟩
      obtain ⟨b, off, rfl, hbl, p0, p1, p2⟩ := HX.out.at k x hx
      have HSZ0 := HS.out x (List.mem_of_getElem? hx)
      obtain ⟨kind, key, val⟩ := x
      simp only at p0 p1 p2 HSZ0
      have HSZ := Lib.hid (show key.size + val.size ≤ 140737488351232 by have := HNB.out; omega)
      replace HSZ0 := Lib.hid HSZ0
      have HAT := Lib.hid (fun (w' : World) (hb : Below w.heap.size w w') => (⟨(hb.cell (p := ⟨b, off + k * 3, none⟩) hbl).trans p0, (hb.cell (p := ⟨b, off + k * 3 + 1, none⟩) hbl).trans p1, (hb.cell (p := ⟨b, off + k * 3 + 2, none⟩) hbl).trans p2⟩ : w'.cell? ⟨b, off + k * 3, none⟩ = some (.int .i64 kind) ∧ w'.cell? ⟨b, off + k * 3 + 1, none⟩ = some (.string key) ∧ w'.cell? ⟨b, off + k * 3 + 2, none⟩ = some (.string val)))
      obtain ⟨q, hq4, hqe⟩ := avsmall_mod kind 4 (by decide) (by decide)
      simp only [Int.cast_ofNat_Int] at hqe
      clear hx p0 p1 p2 hbl
      by_cases hq : q = 3
      · have hq3 : ((q : Int) == 3) = true := by rw [beq_iff_eq]; omega
        have c0 := (HAT.out wr M.out.below).1
        have c1 := (HAT.out wr M.out.below).2.1
        clear hq4 hq
        go_upto_region 8 with (go_at_call 28; (with_reducible refine (drop_any u4 t key _ (HE.out.below M.out.below HE.out.lt) M.out.tree (by have := HTB.out; omega)).mono ?_); rintro e w5 ⟨v5, rfl, ht, hb⟩; replace M := Lib.hid (M.out.turn hb ht); clear ht hb)
        clear c0 c1 hqe hq3
        refine wp_region_T (fun w' => w'.rangeAt (w.heap.size + 1) 0 cs.toList ∧ w'.cell? ⟨b, off + k * 3 + 1, none⟩ = some (.string key)) [0, 3, 4, 5] (by kernel_rfl) ?_
        replace M := Lib.hid (M.out.call (Below.refl _ _).drew)
        generalize w5.drew = w5' at *
        refine anyT_takeY (i := 1) (v := .slice (some ⟨b, off, none⟩) ts.length cap) rfl (by kernel_rfl) (by kernel_rfl) (by kernel_rfl) (fun _ _ _ h => h) (by kernel_rfl) (Or.inl ⟨by rfl, by intro w; go_simp⟩) ?_
        try simp only [List.getElem_toArray, List.getElem_cons_succ, List.getElem_cons_zero, Act.put, List.setIfInBounds_toArray, List.set_cons_zero, List.set_cons_succ]
        refine anyT_takeY (i := 2) (v := .int .i64 (k : Int)) rfl (by kernel_rfl) (by kernel_rfl) (by kernel_rfl) (fun _ _ _ h => h) (by kernel_rfl) (Or.inl ⟨by rfl, by intro w; go_simp⟩) ?_
        try simp only [List.getElem_toArray, List.getElem_cons_succ, List.getElem_cons_zero, Act.put, List.setIfInBounds_toArray, List.set_cons_zero, List.set_cons_succ]
        refine anyT_take [4, 5, 6, 7] (i := 3) (v := .pointer (some ⟨b, off + k * 3, none⟩)) rfl (by kernel_rfl) (by kernel_rfl) (by kernel_rfl) (fun _ _ _ h => h) (by kernel_rfl) (Or.inl ⟨by rfl, fun w' _ => by go_simp⟩) ⟨range_of M.out.blk, (HAT.out _ M.out.below).2.1⟩ ?_
        try simp only [List.getElem_toArray, List.getElem_cons_succ, List.getElem_cons_zero, Act.put, List.setIfInBounds_toArray, List.set_cons_zero, List.set_cons_succ]
        refine anyT_take [5, 6, 7] (i := 4) (v := .pointer (some ⟨b, off + k * 3 + 1, none⟩)) rfl (by kernel_rfl) (by kernel_rfl) (by kernel_rfl) (fun _ _ _ h => h) (by kernel_rfl) (Or.inl ⟨by rfl, fun w' _ => by go_simp⟩) ⟨range_of M.out.blk, (HAT.out _ M.out.below).2.1⟩ ?_
        try simp only [List.getElem_toArray, List.getElem_cons_succ, List.getElem_cons_zero, Act.put, List.setIfInBounds_toArray, List.set_cons_zero, List.set_cons_succ]
        refine anyT_take [6, 7] (i := 0) (v := .agg cs) rfl (by kernel_rfl) (by kernel_rfl) (by kernel_rfl) (fun _ _ _ h => h) (by kernel_rfl) (agg_mid (by rfl) 29 (.tmp 5) rfl (w.heap.size + 1) 0 rfl _ _ (fun _ h => h.1) Tryd.underlying29 rfl (by rw [csZ.out]; kernel_rfl)) ⟨range_of M.out.blk, (HAT.out _ M.out.below).2.1⟩ ?_
        try simp only [List.getElem_toArray, List.getElem_cons_succ, List.getElem_cons_zero, Act.put, List.setIfInBounds_toArray, List.set_cons_zero, List.set_cons_succ]
        refine anyT_take [6, 7] (i := 5) (v := .string key) rfl (by kernel_rfl) (by kernel_rfl) (by kernel_rfl) (fun _ _ _ h => h) (by kernel_rfl) (Or.inl ⟨by rfl, fun w' hS => by have c := hS.2; go_simp⟩) ⟨range_of M.out.blk, (HAT.out _ M.out.below).2.1⟩ ?_
        try simp only [List.getElem_toArray, List.getElem_cons_succ, List.getElem_cons_zero, Act.put, List.setIfInBounds_toArray, List.set_cons_zero, List.set_cons_succ]
        refine anyT_one (i := 6) (by kernel_rfl) rfl (fun K hK => ?_)
        rw [if_pos (by rfl)]
        try simp only [List.getElem_toArray, List.getElem_cons_succ, List.getElem_cons_zero]
        (go_simp; refine (rdrop_any t cs key _ M.out.ro (by have := HTB.out; omega)).mono ?_; rintro e w6 ⟨u, rfl, ht, hb⟩; have HRU := Lib.hid ht; have uZ := Lib.hid (RO.size ht); have uO := Lib.hid (RO.one ht); replace M := Lib.hid (M.out.call hb); clear ht hb)
        refine hK _ _ (not_mem rfl) ?_
        clear hK K
        try simp only [List.getElem_toArray, List.getElem_cons_succ, List.getElem_cons_zero, Act.put, List.setIfInBounds_toArray, List.set_cons_zero, List.set_cons_succ]
        refine anyT_one (i := 7) (by kernel_rfl) rfl (fun K hK => ?_)
        rw [if_pos (by rfl)]
        try simp only [List.getElem_toArray, List.getElem_cons_succ, List.getElem_cons_zero]
        (refine wp_store_row 29 (.tmp 5) (.tmp 40) rfl (w.heap.size + 1) u rfl rfl 29 _ M.out.blk (by rw [uZ.out]; kernel_rfl) (by rw [uZ.out, csZ.out]) uO.out ?_)
        refine hK _ _ (not_mem rfl) ?_
        clear hK K
        try simp only [List.getElem_toArray, List.getElem_cons_succ, List.getElem_cons_zero, Act.put, List.setIfInBounds_toArray, List.set_cons_zero, List.set_cons_succ]
        refine anyT_done (by kernel_rfl) ?_ _
        replace M := Lib.hid (M.out.put HRU.out)
        rw [rdropO_eq G.out.bal G.out.srt key] at M
        generalize w6.setRow (w.heap.size + 1) u = w9 at *
        go_wp2_with (fail)
        go_roundw
        case rel => exact ⟨k + 1, u, _, by omega, by omega, by go_num, M, Lib.hid ((G.out.drop key).mono (by omega))⟩
        case measure => simp [intOf]; omega
      · have hq3 : ((q : Int) == 3) = false := by rw [beq_eq_false_iff_ne]; omega
        have c0 := (HAT.out wr M.out.below).1
        clear hq4 hq
        go_upto_region 9 with (fail)
        clear c0 hqe hq3
        refine wp_region_T (fun w' => w'.cell? ⟨b, off + k * 3 + 1, none⟩ = some (.string key) ∧ w'.cell? ⟨b, off + k * 3 + 2, none⟩ = some (.string val)) [3, 4, 5, 8, 9, 10] (by kernel_rfl) ?_
        replace M := Lib.hid (M.out.call (Below.refl _ _).drew)
        generalize wr.drew = w5 at *
        refine anyT_takeY (i := 0) (v := u4) rfl (by kernel_rfl) (by kernel_rfl) (by kernel_rfl) (fun _ _ _ h => h) (by kernel_rfl) (Or.inl ⟨by rfl, by intro w; go_simp⟩) ?_
        try simp only [List.getElem_toArray, List.getElem_cons_succ, List.getElem_cons_zero, Act.put, List.setIfInBounds_toArray, List.set_cons_zero, List.set_cons_succ]
        refine anyT_takeY (i := 1) (v := .slice (some ⟨b, off, none⟩) ts.length cap) rfl (by kernel_rfl) (by kernel_rfl) (by kernel_rfl) (fun _ _ _ h => h) (by kernel_rfl) (Or.inl ⟨by rfl, by intro w; go_simp⟩) ?_
        try simp only [List.getElem_toArray, List.getElem_cons_succ, List.getElem_cons_zero, Act.put, List.setIfInBounds_toArray, List.set_cons_zero, List.set_cons_succ]
        refine anyT_takeY (i := 2) (v := .int .i64 (k : Int)) rfl (by kernel_rfl) (by kernel_rfl) (by kernel_rfl) (fun _ _ _ h => h) (by kernel_rfl) (Or.inl ⟨by rfl, by intro w; go_simp⟩) ?_
        try simp only [List.getElem_toArray, List.getElem_cons_succ, List.getElem_cons_zero, Act.put, List.setIfInBounds_toArray, List.set_cons_zero, List.set_cons_succ]
        refine anyT_takeY (i := 6) (v := .slice (some ⟨b, off, none⟩) ts.length cap) rfl (by kernel_rfl) (by kernel_rfl) (by kernel_rfl) (fun _ _ _ h => h) (by kernel_rfl) (Or.inl ⟨by rfl, by intro w; go_simp⟩) ?_
        try simp only [List.getElem_toArray, List.getElem_cons_succ, List.getElem_cons_zero, Act.put, List.setIfInBounds_toArray, List.set_cons_zero, List.set_cons_succ]
        refine anyT_takeY (i := 7) (v := .int .i64 (k : Int)) rfl (by kernel_rfl) (by kernel_rfl) (by kernel_rfl) (fun _ _ _ h => h) (by kernel_rfl) (Or.inl ⟨by rfl, by intro w; go_simp⟩) ?_
        try simp only [List.getElem_toArray, List.getElem_cons_succ, List.getElem_cons_zero, Act.put, List.setIfInBounds_toArray, List.set_cons_zero, List.set_cons_succ]
        refine anyT_take [4, 5, 11, 12] (i := 3) (v := .pointer (some ⟨b, off + k * 3, none⟩)) rfl (by kernel_rfl) (by kernel_rfl) (by kernel_rfl) (fun _ _ _ h => h) (by kernel_rfl) (Or.inl ⟨by rfl, fun w' _ => by go_simp⟩) ⟨(HAT.out _ M.out.below).2.1, (HAT.out _ M.out.below).2.2⟩ ?_
        try simp only [List.getElem_toArray, List.getElem_cons_succ, List.getElem_cons_zero, Act.put, List.setIfInBounds_toArray, List.set_cons_zero, List.set_cons_succ]
        refine anyT_take [5, 11, 12] (i := 4) (v := .pointer (some ⟨b, off + k * 3 + 1, none⟩)) rfl (by kernel_rfl) (by kernel_rfl) (by kernel_rfl) (fun _ _ _ h => h) (by kernel_rfl) (Or.inl ⟨by rfl, fun w' _ => by go_simp⟩) ⟨(HAT.out _ M.out.below).2.1, (HAT.out _ M.out.below).2.2⟩ ?_
        try simp only [List.getElem_toArray, List.getElem_cons_succ, List.getElem_cons_zero, Act.put, List.setIfInBounds_toArray, List.set_cons_zero, List.set_cons_succ]
        refine anyT_take [9, 10, 11, 12] (i := 8) (v := .pointer (some ⟨b, off + k * 3, none⟩)) rfl (by kernel_rfl) (by kernel_rfl) (by kernel_rfl) (fun _ _ _ h => h) (by kernel_rfl) (Or.inl ⟨by rfl, fun w' _ => by go_simp⟩) ⟨(HAT.out _ M.out.below).2.1, (HAT.out _ M.out.below).2.2⟩ ?_
        try simp only [List.getElem_toArray, List.getElem_cons_succ, List.getElem_cons_zero, Act.put, List.setIfInBounds_toArray, List.set_cons_zero, List.set_cons_succ]
        refine anyT_take [10, 11, 12] (i := 9) (v := .pointer (some ⟨b, off + k * 3 + 2, none⟩)) rfl (by kernel_rfl) (by kernel_rfl) (by kernel_rfl) (fun _ _ _ h => h) (by kernel_rfl) (Or.inl ⟨by rfl, fun w' _ => by go_simp⟩) ⟨(HAT.out _ M.out.below).2.1, (HAT.out _ M.out.below).2.2⟩ ?_
        try simp only [List.getElem_toArray, List.getElem_cons_succ, List.getElem_cons_zero, Act.put, List.setIfInBounds_toArray, List.set_cons_zero, List.set_cons_succ]
        refine anyT_take [11, 12] (i := 5) (v := .string key) rfl (by kernel_rfl) (by kernel_rfl) (by kernel_rfl) (fun _ _ _ h => h) (by kernel_rfl) (Or.inl ⟨by rfl, fun w' hS => by have c := hS.1; go_simp⟩) ⟨(HAT.out _ M.out.below).2.1, (HAT.out _ M.out.below).2.2⟩ ?_
        try simp only [List.getElem_toArray, List.getElem_cons_succ, List.getElem_cons_zero, Act.put, List.setIfInBounds_toArray, List.set_cons_zero, List.set_cons_succ]
        refine anyT_take [11, 12] (i := 10) (v := .string val) rfl (by kernel_rfl) (by kernel_rfl) (by kernel_rfl) (fun _ _ _ h => h) (by kernel_rfl) (Or.inl ⟨by rfl, fun w' hS => by have c := hS.2; go_simp⟩) ⟨(HAT.out _ M.out.below).2.1, (HAT.out _ M.out.below).2.2⟩ ?_
        try simp only [List.getElem_toArray, List.getElem_cons_succ, List.getElem_cons_zero, Act.put, List.setIfInBounds_toArray, List.set_cons_zero, List.set_cons_succ]
        refine anyT_one (i := 11) (by kernel_rfl) rfl (fun K hK => ?_)
        rw [if_pos (by rfl)]
        try simp only [List.getElem_toArray, List.getElem_cons_succ, List.getElem_cons_zero]
        (go_simp; refine (set_any u4 t key val _ (HE.out.below M.out.below HE.out.lt) M.out.tree HSZ.out (by have := HTB.out; omega)).mono ?_; rintro e w6 ⟨g6, rfl, ht, hb⟩; replace M := Lib.hid (M.out.turn hb (TreeAt.toO ht)); clear ht hb)
        refine hK _ _ (not_mem rfl) ?_
        clear hK K
        try simp only [List.getElem_toArray, List.getElem_cons_succ, List.getElem_cons_zero, Act.put, List.setIfInBounds_toArray, List.set_cons_zero, List.set_cons_succ]
        refine anyT_takeY (i := 12) (v := .pointer (some ⟨g6, 0, none⟩)) rfl (by kernel_rfl) (by kernel_rfl) (by kernel_rfl) (fun _ _ _ h => h) (by kernel_rfl) (Or.inl ⟨by rfl, by intro w; go_simp⟩) ?_
        try simp only [List.getElem_toArray, List.getElem_cons_succ, List.getElem_cons_zero, Act.put, List.setIfInBounds_toArray, List.set_cons_zero, List.set_cons_succ]
        refine anyT_done (by kernel_rfl) ?_ _
        go_upto_region 10 with (fail)
        refine wp_region_T (fun w' => w'.rangeAt (w.heap.size + 1) 0 cs.toList ∧ w'.cell? ⟨b, off + k * 3 + 1, none⟩ = some (.string key) ∧ w'.cell? ⟨b, off + k * 3 + 2, none⟩ = some (.string val)) [0, 3, 4, 5, 8, 9, 10] (by kernel_rfl) ?_
        replace M := Lib.hid (M.out.call (Below.refl _ _).drew)
        generalize w6.drew = w6' at *
        refine anyT_takeY (i := 1) (v := .slice (some ⟨b, off, none⟩) ts.length cap) rfl (by kernel_rfl) (by kernel_rfl) (by kernel_rfl) (fun _ _ _ h => h) (by kernel_rfl) (Or.inl ⟨by rfl, by intro w; go_simp⟩) ?_
        try simp only [List.getElem_toArray, List.getElem_cons_succ, List.getElem_cons_zero, Act.put, List.setIfInBounds_toArray, List.set_cons_zero, List.set_cons_succ]
        refine anyT_takeY (i := 2) (v := .int .i64 (k : Int)) rfl (by kernel_rfl) (by kernel_rfl) (by kernel_rfl) (fun _ _ _ h => h) (by kernel_rfl) (Or.inl ⟨by rfl, by intro w; go_simp⟩) ?_
        try simp only [List.getElem_toArray, List.getElem_cons_succ, List.getElem_cons_zero, Act.put, List.setIfInBounds_toArray, List.set_cons_zero, List.set_cons_succ]
        refine anyT_takeY (i := 6) (v := .slice (some ⟨b, off, none⟩) ts.length cap) rfl (by kernel_rfl) (by kernel_rfl) (by kernel_rfl) (fun _ _ _ h => h) (by kernel_rfl) (Or.inl ⟨by rfl, by intro w; go_simp⟩) ?_
        try simp only [List.getElem_toArray, List.getElem_cons_succ, List.getElem_cons_zero, Act.put, List.setIfInBounds_toArray, List.set_cons_zero, List.set_cons_succ]
        refine anyT_takeY (i := 7) (v := .int .i64 (k : Int)) rfl (by kernel_rfl) (by kernel_rfl) (by kernel_rfl) (fun _ _ _ h => h) (by kernel_rfl) (Or.inl ⟨by rfl, by intro w; go_simp⟩) ?_
        try simp only [List.getElem_toArray, List.getElem_cons_succ, List.getElem_cons_zero, Act.put, List.setIfInBounds_toArray, List.set_cons_zero, List.set_cons_succ]
        refine anyT_take [4, 5, 11, 12] (i := 3) (v := .pointer (some ⟨b, off + k * 3, none⟩)) rfl (by kernel_rfl) (by kernel_rfl) (by kernel_rfl) (fun _ _ _ h => h) (by kernel_rfl) (Or.inl ⟨by rfl, fun w' _ => by go_simp⟩) ⟨range_of M.out.blk, (HAT.out _ M.out.below).2.1, (HAT.out _ M.out.below).2.2⟩ ?_
        try simp only [List.getElem_toArray, List.getElem_cons_succ, List.getElem_cons_zero, Act.put, List.setIfInBounds_toArray, List.set_cons_zero, List.set_cons_succ]
        refine anyT_take [5, 11, 12] (i := 4) (v := .pointer (some ⟨b, off + k * 3 + 1, none⟩)) rfl (by kernel_rfl) (by kernel_rfl) (by kernel_rfl) (fun _ _ _ h => h) (by kernel_rfl) (Or.inl ⟨by rfl, fun w' _ => by go_simp⟩) ⟨range_of M.out.blk, (HAT.out _ M.out.below).2.1, (HAT.out _ M.out.below).2.2⟩ ?_
        try simp only [List.getElem_toArray, List.getElem_cons_succ, List.getElem_cons_zero, Act.put, List.setIfInBounds_toArray, List.set_cons_zero, List.set_cons_succ]
        refine anyT_take [9, 10, 11, 12] (i := 8) (v := .pointer (some ⟨b, off + k * 3, none⟩)) rfl (by kernel_rfl) (by kernel_rfl) (by kernel_rfl) (fun _ _ _ h => h) (by kernel_rfl) (Or.inl ⟨by rfl, fun w' _ => by go_simp⟩) ⟨range_of M.out.blk, (HAT.out _ M.out.below).2.1, (HAT.out _ M.out.below).2.2⟩ ?_
        try simp only [List.getElem_toArray, List.getElem_cons_succ, List.getElem_cons_zero, Act.put, List.setIfInBounds_toArray, List.set_cons_zero, List.set_cons_succ]
        refine anyT_take [10, 11, 12] (i := 9) (v := .pointer (some ⟨b, off + k * 3 + 2, none⟩)) rfl (by kernel_rfl) (by kernel_rfl) (by kernel_rfl) (fun _ _ _ h => h) (by kernel_rfl) (Or.inl ⟨by rfl, fun w' _ => by go_simp⟩) ⟨range_of M.out.blk, (HAT.out _ M.out.below).2.1, (HAT.out _ M.out.below).2.2⟩ ?_
        try simp only [List.getElem_toArray, List.getElem_cons_succ, List.getElem_cons_zero, Act.put, List.setIfInBounds_toArray, List.set_cons_zero, List.set_cons_succ]
        refine anyT_take [11, 12] (i := 0) (v := .agg cs) rfl (by kernel_rfl) (by kernel_rfl) (by kernel_rfl) (fun _ _ _ h => h) (by kernel_rfl) (agg_mid (by rfl) 29 (.tmp 5) rfl (w.heap.size + 1) 0 rfl _ _ (fun _ h => h.1) Tryd.underlying29 rfl (by rw [csZ.out]; kernel_rfl)) ⟨range_of M.out.blk, (HAT.out _ M.out.below).2.1, (HAT.out _ M.out.below).2.2⟩ ?_
        try simp only [List.getElem_toArray, List.getElem_cons_succ, List.getElem_cons_zero, Act.put, List.setIfInBounds_toArray, List.set_cons_zero, List.set_cons_succ]
        refine anyT_take [11, 12] (i := 5) (v := .string key) rfl (by kernel_rfl) (by kernel_rfl) (by kernel_rfl) (fun _ _ _ h => h) (by kernel_rfl) (Or.inl ⟨by rfl, fun w' hS => by have c := hS.2.1; go_simp⟩) ⟨range_of M.out.blk, (HAT.out _ M.out.below).2.1, (HAT.out _ M.out.below).2.2⟩ ?_
        try simp only [List.getElem_toArray, List.getElem_cons_succ, List.getElem_cons_zero, Act.put, List.setIfInBounds_toArray, List.set_cons_zero, List.set_cons_succ]
        refine anyT_take [11, 12] (i := 10) (v := .string val) rfl (by kernel_rfl) (by kernel_rfl) (by kernel_rfl) (fun _ _ _ h => h) (by kernel_rfl) (Or.inl ⟨by rfl, fun w' hS => by have c := hS.2.2; go_simp⟩) ⟨range_of M.out.blk, (HAT.out _ M.out.below).2.1, (HAT.out _ M.out.below).2.2⟩ ?_
        try simp only [List.getElem_toArray, List.getElem_cons_succ, List.getElem_cons_zero, Act.put, List.setIfInBounds_toArray, List.set_cons_zero, List.set_cons_succ]
        refine anyT_one (i := 11) (by kernel_rfl) rfl (fun K hK => ?_)
        rw [if_pos (by rfl)]
        try simp only [List.getElem_toArray, List.getElem_cons_succ, List.getElem_cons_zero]
        (go_simp; refine (rset_any t cs key val _ M.out.ro (by have := HTB.out; omega)).mono ?_; rintro e w7 ⟨u, rfl, ht, hb⟩; have HRU := Lib.hid ht; have uZ := Lib.hid (RO.size ht); have uO := Lib.hid (RO.one ht); replace M := Lib.hid (M.out.call hb); clear ht hb)
        refine hK _ _ (not_mem rfl) ?_
        clear hK K
        try simp only [List.getElem_toArray, List.getElem_cons_succ, List.getElem_cons_zero, Act.put, List.setIfInBounds_toArray, List.set_cons_zero, List.set_cons_succ]
        refine anyT_one (i := 12) (by kernel_rfl) rfl (fun K hK => ?_)
        rw [if_pos (by rfl)]
        try simp only [List.getElem_toArray, List.getElem_cons_succ, List.getElem_cons_zero]
        (refine wp_store_row 29 (.tmp 5) (.tmp 64) rfl (w.heap.size + 1) u rfl rfl 29 _ M.out.blk (by rw [uZ.out]; kernel_rfl) (by rw [uZ.out, csZ.out]) uO.out ?_)
        refine hK _ _ (not_mem rfl) ?_
        clear hK K
        try simp only [List.getElem_toArray, List.getElem_cons_succ, List.getElem_cons_zero, Act.put, List.setIfInBounds_toArray, List.set_cons_zero, List.set_cons_succ]
        refine anyT_done (by kernel_rfl) ?_ _
        replace M := Lib.hid (M.out.put HRU.out)
        rw [rsetO_eq G.out.bal key val] at M
        generalize w7.setRow (w.heap.size + 1) u = w9 at *
        go_wp2_with (fail)
        go_roundw
        case rel => exact ⟨k + 1, u, _, by omega, by omega, by go_num, M, Lib.hid (G.out.set key val HSZ0.out)⟩
        case measure => simp [intOf]; omega
    · by_cases hlt1 : k < ts.length
      · obtain rfl : k = 60 := by omega
        replace G := Lib.hid (show GT N 60 t from G.out)
        go_upto_region 11 with (fail)
        refine wp_region_T (fun w' => w'.rangeAt (w.heap.size + 1) 0 cs.toList) [1] (by kernel_rfl) ?_
        replace M := Lib.hid (M.out.call (Below.refl _ _).drew)
        generalize wr.drew = w5 at *
        refine anyT_takeY (i := 0) (v := u4) rfl (by kernel_rfl) (by kernel_rfl) (by kernel_rfl) (fun _ _ _ h => h) (by kernel_rfl) (Or.inl ⟨by rfl, by intro w; go_simp⟩) ?_
        try simp only [List.getElem_toArray, List.getElem_cons_succ, List.getElem_cons_zero, Act.put, List.setIfInBounds_toArray, List.set_cons_zero, List.set_cons_succ]
        refine anyT_takeY (i := 2) (v := u4) rfl (by kernel_rfl) (by kernel_rfl) (by kernel_rfl) (fun _ _ _ h => h) (by kernel_rfl) (Or.inl ⟨by rfl, by intro w; go_simp⟩) ?_
        try simp only [List.getElem_toArray, List.getElem_cons_succ, List.getElem_cons_zero, Act.put, List.setIfInBounds_toArray, List.set_cons_zero, List.set_cons_succ]
        refine anyT_take [3] (i := 1) (v := .agg cs) rfl (by kernel_rfl) (by kernel_rfl) (by kernel_rfl) (fun _ _ _ h => h) (by kernel_rfl) (agg_mid (by rfl) 29 (.tmp 5) rfl (w.heap.size + 1) 0 rfl _ _ (fun _ h => h) Tryd.underlying29 rfl (by rw [csZ.out]; kernel_rfl)) (range_of M.out.blk) ?_
        try simp only [List.getElem_toArray, List.getElem_cons_succ, List.getElem_cons_zero, Act.put, List.setIfInBounds_toArray, List.set_cons_zero, List.set_cons_succ]
        refine anyT_one (i := 3) (by kernel_rfl) rfl (fun K hK => ?_)
        rw [if_pos (by rfl)]
        try simp only [List.getElem_toArray, List.getElem_cons_succ, List.getElem_cons_zero]
        (refine wp_store_row 29 (.tmp 3) (.tmp 66) rfl w.heap.size cs rfl rfl 29 _ M.out.res (by rw [csZ.out]; kernel_rfl) (by rw [csZ.out]; rfl) csO.out ?_)
        refine hK _ _ (not_mem rfl) ?_
        clear hK K
        try simp only [List.getElem_toArray, List.getElem_cons_succ, List.getElem_cons_zero, Act.put, List.setIfInBounds_toArray, List.set_cons_zero, List.set_cons_succ]
        refine anyT_done (by kernel_rfl) ?_ _
        go_wp2_with (fail)
        obtain ⟨e1, e2, e3, e4⟩ := M.out.done G.out
        refine bodyPost_ret (results_tmp_cell_row rfl _ _ w.heap.size 29 cs (0, 0) _ rfl e4 Tryd.underlying29 rfl (by rw [csZ.out]; kernel_rfl)) rfl ?_
        exact ⟨u4, cs, t, rfl, e1, e2, G.out, e3⟩
      · obtain rfl : k = ts.length := by omega
        replace G := Lib.hid (G.out.mono hk60)
        go_upto_region 11 with (fail)
        refine wp_region_T (fun w' => w'.rangeAt (w.heap.size + 1) 0 cs.toList) [1] (by kernel_rfl) ?_
        replace M := Lib.hid (M.out.call (Below.refl _ _).drew)
        generalize wr.drew = w5 at *
        refine anyT_takeY (i := 0) (v := u4) rfl (by kernel_rfl) (by kernel_rfl) (by kernel_rfl) (fun _ _ _ h => h) (by kernel_rfl) (Or.inl ⟨by rfl, by intro w; go_simp⟩) ?_
        try simp only [List.getElem_toArray, List.getElem_cons_succ, List.getElem_cons_zero, Act.put, List.setIfInBounds_toArray, List.set_cons_zero, List.set_cons_succ]
        refine anyT_takeY (i := 2) (v := u4) rfl (by kernel_rfl) (by kernel_rfl) (by kernel_rfl) (fun _ _ _ h => h) (by kernel_rfl) (Or.inl ⟨by rfl, by intro w; go_simp⟩) ?_
        try simp only [List.getElem_toArray, List.getElem_cons_succ, List.getElem_cons_zero, Act.put, List.setIfInBounds_toArray, List.set_cons_zero, List.set_cons_succ]
        refine anyT_take [3] (i := 1) (v := .agg cs) rfl (by kernel_rfl) (by kernel_rfl) (by kernel_rfl) (fun _ _ _ h => h) (by kernel_rfl) (agg_mid (by rfl) 29 (.tmp 5) rfl (w.heap.size + 1) 0 rfl _ _ (fun _ h => h) Tryd.underlying29 rfl (by rw [csZ.out]; kernel_rfl)) (range_of M.out.blk) ?_
        try simp only [List.getElem_toArray, List.getElem_cons_succ, List.getElem_cons_zero, Act.put, List.setIfInBounds_toArray, List.set_cons_zero, List.set_cons_succ]
        refine anyT_one (i := 3) (by kernel_rfl) rfl (fun K hK => ?_)
        rw [if_pos (by rfl)]
        try simp only [List.getElem_toArray, List.getElem_cons_succ, List.getElem_cons_zero]
        (refine wp_store_row 29 (.tmp 3) (.tmp 66) rfl w.heap.size cs rfl rfl 29 _ M.out.res (by rw [csZ.out]; kernel_rfl) (by rw [csZ.out]; rfl) csO.out ?_)
        refine hK _ _ (not_mem rfl) ?_
        clear hK K
        try simp only [List.getElem_toArray, List.getElem_cons_succ, List.getElem_cons_zero, Act.put, List.setIfInBounds_toArray, List.set_cons_zero, List.set_cons_succ]
        refine anyT_done (by kernel_rfl) ?_ _
        go_wp2_with (fail)
        obtain ⟨e1, e2, e3, e4⟩ := M.out.done G.out
        refine bodyPost_ret (results_tmp_cell_row rfl _ _ w.heap.size 29 cs (0, 0) _ rfl e4 Tryd.underlying29 rfl (by rw [csZ.out]; kernel_rfl)) rfl ?_
        exact ⟨u4, cs, t, rfl, e1, e2, G.out, e3⟩
end Go.Proofs.YtadolfacjolbkaaDoor

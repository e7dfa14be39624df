/- Part 5 of the proof. -/
import Derived.BigQuiet
import Derived.Test.YtfmfemmknccfmaaDoorPa42
import Derived.Test.YtfmfemmknccfmaaDoorPa41
import Derived.Test.YtfmfemmknccfmaaDoorPa40
import Derived.Test.YtfmfemmknccfmaaDoorPa36
import Derived.Test.YtfmfemmknccfmaaDoorPa26
import Derived.Test.YtfmfemmknccfmaaDoorPa22
import Derived.Test.YtfmfemmknccfmaaDoorPa21
import Derived.Test.YtfmfemmknccfmaaDoorPb3
import Derived.Test.YtfmfemmknccfmaaDoorPb4
namespace Go.Proofs.YtfmfemmknccfmaaDoor
set_option linter.unusedVariables false
set_option linter.unusedSimpArgs false
open Go.RowKit
set_option maxRecDepth 100000
set_option linter.unusedSimpArgs false
set_option linter.unusedVariables false
def GrPost (N : Nat) (w : World) (e : Ending) (w' : World) : Prop := ∃ v cs t, e = .returned (.tuple #[v, .agg cs]) ∧ TreeO w' v t ∧ RO w' cs t ∧ GT N 60 t ∧ Below w.heap.size w w'
set_option maxHeartbeats 8000000 in
theorem grown_any (va : Value) (ts : List AvA) (N : Nat) (w : World) (he : Env w) (hx : AvActs w va ts) (hk : ∀ t ∈ ts, t.kOk) (hs : ∀ t ∈ ts, t.key.size + t.val.size ≤ N) (hN : N ≤ 1048576) :
    Calls Tryd.prog 8 #[va] w (GrPost N w) := by
  obtain ⟨a, cap, rfl⟩ := hx.len
  have HX := Lib.hid hx
  have HE := Lib.hid he
  have HKO := Lib.hid hk
  have HS := Lib.hid hs
  have HNB := Lib.hid hN
  have hlen : ts.length ≤ maxLen := by obtain ⟨_, _, e, _, hm, _⟩ := hx; exact hm
  unfold maxLen at hlen
  have M := Lib.hid (gm_start w)
  have G := Lib.hid (GT.none N)
  clear hx he hk hs hN
  unfold GrPost
  go_enter Tryd.func8, Tryd.ntmps8
  go_upto_region 3 with (refine wpList_store_row rfl 29 (.tmp 5) (.tmp 7) rfl (w.heap.size + 1) zR rfl rfl 29 _ M.out.blk (by kernel_rfl) rfl (by simp [zR, Value.oneCell']) ?_)
  replace M := Lib.hid (M.out.put (new := zR) (r2 := none) rfl)
  have e0 : ((w.alloc (.cells #[.bool false, .string { data := #[] }, .string { data := #[] }, .slice none 0 0] 29)).alloc (.cells #[.bool false, .string { data := #[] }, .string { data := #[] }, .slice none 0 0] 29)).setRow (w.heap.size + 1) zR = ((w.alloc (.cells zR 29)).alloc (.cells zR 29)).setRow (w.heap.size + 1) zR := rfl
  rw [e0]
  clear e0
  generalize ((w.alloc (.cells zR 29)).alloc (.cells zR 29)).setRow (w.heap.size + 1) zR = w1 at *
  go_wp2_with (fail)
  go_loopw [4, 6] (fun v4 y wr => ∃ (k : Nat) (cs : Array Value) (t : Option AvT), k ≤ 60 ∧ k ≤ ts.length ∧ y = .int .i64 (k : Int) ∧ Hid (GM w wr v4 cs t t) ∧ Hid (GT N k t)) (fun _ y _ => 60 - (intOf y).toNat)
  case atStart => exact ⟨0, _, _, by omega, by omega, rfl, M, G⟩
  case round =>
    clear M G
    clear w1
    obtain ⟨k, cs, t, hk60, hkl, rfl, M, G⟩ := hrel
    have csZ := Lib.hid M.out.ro.size
    have csO := Lib.hid M.out.ro.one
    have HTB := Lib.hid (show manyO t ≤ 60 from Nat.le_trans G.out.many hk60)
    by_cases hlt : k < ts.length ∧ k < 60
    · obtain ⟨hlt1, hlt2⟩ := hlt
      obtain ⟨x, hx⟩ : ∃ x, ts[k]? = some x := ⟨ts[k], List.getElem?_eq_getElem hlt1⟩
      obtain ⟨b, off, rfl, hbl, p0, p1, p2⟩ := HX.out.at k x hx
      have HSZ0 := HS.out x (List.mem_of_getElem? hx)
      obtain ⟨kind, key, val⟩ := x
      simp only at p0 p1 p2 HSZ0
      have HSZ := Lib.hid (show key.size + val.size ≤ 140737488351232 by have := HNB.out; omega)
      replace HSZ0 := Lib.hid HSZ0
      have HAT := Lib.hid (fun (w' : World) (hb : Below w.heap.size w w') => (⟨(hb.cell (p := ⟨b, off + k * 3, none⟩) hbl).trans p0, (hb.cell (p := ⟨b, off + k * 3 + 1, none⟩) hbl).trans p1, (hb.cell (p := ⟨b, off + k * 3 + 2, none⟩) hbl).trans p2⟩ : w'.cell? ⟨b, off + k * 3, none⟩ = some (.int .i64 kind) ∧ w'.cell? ⟨b, off + k * 3 + 1, none⟩ = some (.string key) ∧ w'.cell? ⟨b, off + k * 3 + 2, none⟩ = some (.string val)))
      obtain ⟨q, hq4, hqe⟩ := avsmall_mod kind 4 (by decide) (by decide)
      simp only [Int.cast_ofNat_Int] at hqe
      clear hx p0 p1 p2 hbl
      by_cases hq : q = 3
      · have hq3 : ((q : Int) == 3) = true := by rw [beq_iff_eq]; omega
        have c0 := (HAT.out wr M.out.below).1
        have c1 := (HAT.out wr M.out.below).2.1
        clear hq4 hq
        go_upto_region 8 with (go_at_call 37; (with_reducible refine (drop_any u4 t key _ (HE.out.below M.out.below HE.out.lt) M.out.tree (by have := HTB.out; omega)).mono ?_); rintro e w5 ⟨v5, rfl, ht, hb⟩; replace M := Lib.hid (M.out.turn hb ht); clear ht hb)
        clear c0 c1 hqe hq3
        refine wp_region_T (fun w' => w'.rangeAt (w.heap.size + 1) 0 cs.toList ∧ w'.cell? ⟨b, off + k * 3 + 1, none⟩ = some (.string key)) [0, 3, 4, 5] (by kernel_rfl) ?_
        replace M := Lib.hid (M.out.call (Below.refl _ _).drew)
        generalize w5.drew = w5' at *
        refine anyT_takeY (i := 1) (v := .slice (some ⟨b, off, none⟩) ts.length cap) rfl (by kernel_rfl) (by kernel_rfl) (by kernel_rfl) (fun _ _ _ h => h) (by kernel_rfl) (Or.inl ⟨by rfl, by intro w; go_simp⟩) ?_
        try simp only [List.getElem_toArray, List.getElem_cons_succ, List.getElem_cons_zero, Act.put, List.setIfInBounds_toArray, List.set_cons_zero, List.set_cons_succ]
        refine anyT_takeY (i := 2) (v := .int .i64 (k : Int)) rfl (by kernel_rfl) (by kernel_rfl) (by kernel_rfl) (fun _ _ _ h => h) (by kernel_rfl) (Or.inl ⟨by rfl, by intro w; go_simp⟩) ?_
        try simp only [List.getElem_toArray, List.getElem_cons_succ, List.getElem_cons_zero, Act.put, List.setIfInBounds_toArray, List.set_cons_zero, List.set_cons_succ]
        refine anyT_take [4, 5, 6, 7] (i := 3) (v := .pointer (some ⟨b, off + k * 3, none⟩)) rfl (by kernel_rfl) (by kernel_rfl) (by kernel_rfl) (fun _ _ _ h => h) (by kernel_rfl) (Or.inl ⟨by rfl, fun w' _ => by go_simp⟩) ⟨range_of M.out.blk, (HAT.out _ M.out.below).2.1⟩ ?_
        try simp only [List.getElem_toArray, List.getElem_cons_succ, List.getElem_cons_zero, Act.put, List.setIfInBounds_toArray, List.set_cons_zero, List.set_cons_succ]
        refine anyT_take [5, 6, 7] (i := 4) (v := .pointer (some ⟨b, off + k * 3 + 1, none⟩)) rfl (by kernel_rfl) (by kernel_rfl) (by kernel_rfl) (fun _ _ _ h => h) (by kernel_rfl) (Or.inl ⟨by rfl, fun w' _ => by go_simp⟩) ⟨range_of M.out.blk, (HAT.out _ M.out.below).2.1⟩ ?_
        try simp only [List.getElem_toArray, List.getElem_cons_succ, List.getElem_cons_zero, Act.put, List.setIfInBounds_toArray, List.set_cons_zero, List.set_cons_succ]
        refine anyT_take [6, 7] (i := 0) (v := .agg cs) rfl (by kernel_rfl) (by kernel_rfl) (by kernel_rfl) (fun _ _ _ h => h) (by kernel_rfl) (agg_mid (by rfl) 29 (.tmp 5) rfl (w.heap.size + 1) 0 rfl _ _ (fun _ h => h.1) Tryd.underlying29 rfl (by rw [csZ.out]; kernel_rfl)) ⟨range_of M.out.blk, (HAT.out _ M.out.below).2.1⟩ ?_
        try simp only [List.getElem_toArray, List.getElem_cons_succ, List.getElem_cons_zero, Act.put, List.setIfInBounds_toArray, List.set_cons_zero, List.set_cons_succ]
        refine anyT_take [6, 7] (i := 5) (v := .string key) rfl (by kernel_rfl) (by kernel_rfl) (by kernel_rfl) (fun _ _ _ h => h) (by kernel_rfl) (Or.inl ⟨by rfl, fun w' hS => by have c := hS.2; go_simp⟩) ⟨range_of M.out.blk, (HAT.out _ M.out.below).2.1⟩ ?_
        try simp only [List.getElem_toArray, List.getElem_cons_succ, List.getElem_cons_zero, Act.put, List.setIfInBounds_toArray, List.set_cons_zero, List.set_cons_succ]
        refine anyT_one (i := 6) (by kernel_rfl) rfl (fun K hK => ?_)
        rw [if_pos (by rfl)]
        try simp only [List.getElem_toArray, List.getElem_cons_succ, List.getElem_cons_zero]
        (go_simp; refine (rdrop_any t cs key _ M.out.ro (by have := HTB.out; omega)).mono ?_; rintro e w6 ⟨u, rfl, ht, hb⟩; have HRU := Lib.hid ht; have uZ := Lib.hid (RO.size ht); have uO := Lib.hid (RO.one ht); replace M := Lib.hid (M.out.call hb); clear ht hb)
        refine hK _ _ (not_mem rfl) ?_
        clear hK K
        try simp only [List.getElem_toArray, List.getElem_cons_succ, List.getElem_cons_zero, Act.put, List.setIfInBounds_toArray, List.set_cons_zero, List.set_cons_succ]
        refine anyT_one (i := 7) (by kernel_rfl) rfl (fun K hK => ?_)
        rw [if_pos (by rfl)]
        try simp only [List.getElem_toArray, List.getElem_cons_succ, List.getElem_cons_zero]
        (refine wp_store_row 29 (.tmp 5) (.tmp 40) rfl (w.heap.size + 1) u rfl rfl 29 _ M.out.blk (by rw [uZ.out]; kernel_rfl) (by rw [uZ.out, csZ.out]) uO.out ?_)
        refine hK _ _ (not_mem rfl) ?_
        clear hK K
        try simp only [List.getElem_toArray, List.getElem_cons_succ, List.getElem_cons_zero, Act.put, List.setIfInBounds_toArray, List.set_cons_zero, List.set_cons_succ]
        refine anyT_done (by kernel_rfl) ?_ _
        replace M := Lib.hid (M.out.put HRU.out)
        rw [rdropO_eq G.out.bal G.out.srt key] at M
        generalize w6.setRow (w.heap.size + 1) u = w9 at *
        go_wp2_with (fail)
        go_roundw
        case rel => exact ⟨k + 1, u, _, by omega, by omega, by go_num, M, Lib.hid ((G.out.drop key).mono (by omega))⟩
        case measure => simp [intOf]; omega
      · have hq3 : ((q : Int) == 3) = false := by rw [beq_eq_false_iff_ne]; omega
        have c0 := (HAT.out wr M.out.below).1
        clear hq4 hq
        go_upto_region 9 with (fail)
        clear c0 hqe hq3
        refine wp_region_T (fun w' => w'.cell? ⟨b, off + k * 3 + 1, none⟩ = some (.string key) ∧ w'.cell? ⟨b, off + k * 3 + 2, none⟩ = some (.string val)) [3, 4, 5, 8, 9, 10] (by kernel_rfl) ?_
        replace M := Lib.hid (M.out.call (Below.refl _ _).drew)
        generalize wr.drew = w5 at *
        refine anyT_takeY (i := 0) (v := u4) rfl (by kernel_rfl) (by kernel_rfl) (by kernel_rfl) (fun _ _ _ h => h) (by kernel_rfl) (Or.inl ⟨by rfl, by intro w; go_simp⟩) ?_
        try simp only [List.getElem_toArray, List.getElem_cons_succ, List.getElem_cons_zero, Act.put, List.setIfInBounds_toArray, List.set_cons_zero, List.set_cons_succ]
        refine anyT_takeY (i := 1) (v := .slice (some ⟨b, off, none⟩) ts.length cap) rfl (by kernel_rfl) (by kernel_rfl) (by kernel_rfl) (fun _ _ _ h => h) (by kernel_rfl) (Or.inl ⟨by rfl, by intro w; go_simp⟩) ?_
        try simp only [List.getElem_toArray, List.getElem_cons_succ, List.getElem_cons_zero, Act.put, List.setIfInBounds_toArray, List.set_cons_zero, List.set_cons_succ]
        refine anyT_takeY (i := 2) (v := .int .i64 (k : Int)) rfl (by kernel_rfl) (by kernel_rfl) (by kernel_rfl) (fun _ _ _ h => h) (by kernel_rfl) (Or.inl ⟨by rfl, by intro w; go_simp⟩) ?_
        try simp only [List.getElem_toArray, List.getElem_cons_succ, List.getElem_cons_zero, Act.put, List.setIfInBounds_toArray, List.set_cons_zero, List.set_cons_succ]
        refine anyT_takeY (i := 6) (v := .slice (some ⟨b, off, none⟩) ts.length cap) rfl (by kernel_rfl) (by kernel_rfl) (by kernel_rfl) (fun _ _ _ h => h) (by kernel_rfl) (Or.inl ⟨by rfl, by intro w; go_simp⟩) ?_
        try simp only [List.getElem_toArray, List.getElem_cons_succ, List.getElem_cons_zero, Act.put, List.setIfInBounds_toArray, List.set_cons_zero, List.set_cons_succ]
        refine anyT_takeY (i := 7) (v := .int .i64 (k : Int)) rfl (by kernel_rfl) (by kernel_rfl) (by kernel_rfl) (fun _ _ _ h => h) (by kernel_rfl) (Or.inl ⟨by rfl, by intro w; go_simp⟩) ?_
        try simp only [List.getElem_toArray, List.getElem_cons_succ, List.getElem_cons_zero, Act.put, List.setIfInBounds_toArray, List.set_cons_zero, List.set_cons_succ]
        refine anyT_take [4, 5, 11, 12] (i := 3) (v := .pointer (some ⟨b, off + k * 3, none⟩)) rfl (by kernel_rfl) (by kernel_rfl) (by kernel_rfl) (fun _ _ _ h => h) (by kernel_rfl) (Or.inl ⟨by rfl, fun w' _ => by go_simp⟩) ⟨(HAT.out _ M.out.below).2.1, (HAT.out _ M.out.below).2.2⟩ ?_
        try simp only [List.getElem_toArray, List.getElem_cons_succ, List.getElem_cons_zero, Act.put, List.setIfInBounds_toArray, List.set_cons_zero, List.set_cons_succ]
        refine anyT_take [5, 11, 12] (i := 4) (v := .pointer (some ⟨b, off + k * 3 + 1, none⟩)) rfl (by kernel_rfl) (by kernel_rfl) (by kernel_rfl) (fun _ _ _ h => h) (by kernel_rfl) (Or.inl ⟨by rfl, fun w' _ => by go_simp⟩) ⟨(HAT.out _ M.out.below).2.1, (HAT.out _ M.out.below).2.2⟩ ?_
        try simp only [List.getElem_toArray, List.getElem_cons_succ, List.getElem_cons_zero, Act.put, List.setIfInBounds_toArray, List.set_cons_zero, List.set_cons_succ]
        refine anyT_take [9, 10, 11, 12] (i := 8) (v := .pointer (some ⟨b, off + k * 3, none⟩)) rfl (by kernel_rfl) (by kernel_rfl) (by kernel_rfl) (fun _ _ _ h => h) (by kernel_rfl) (Or.inl ⟨by rfl, fun w' _ => by go_simp⟩) ⟨(HAT.out _ M.out.below).2.1, (HAT.out _ M.out.below).2.2⟩ ?_
        try simp only [List.getElem_toArray, List.getElem_cons_succ, List.getElem_cons_zero, Act.put, List.setIfInBounds_toArray, List.set_cons_zero, List.set_cons_succ]
        refine anyT_take [10, 11, 12] (i := 9) (v := .pointer (some ⟨b, off + k * 3 + 2, none⟩)) rfl (by kernel_rfl) (by kernel_rfl) (by kernel_rfl) (fun _ _ _ h => h) (by kernel_rfl) (Or.inl ⟨by rfl, fun w' _ => by go_simp⟩) ⟨(HAT.out _ M.out.below).2.1, (HAT.out _ M.out.below).2.2⟩ ?_
        try simp only [List.getElem_toArray, List.getElem_cons_succ, List.getElem_cons_zero, Act.put, List.setIfInBounds_toArray, List.set_cons_zero, List.set_cons_succ]
        refine anyT_take [11, 12] (i := 5) (v := .string key) rfl (by kernel_rfl) (by kernel_rfl) (by kernel_rfl) (fun _ _ _ h => h) (by kernel_rfl) (Or.inl ⟨by rfl, fun w' hS => by have c := hS.1; go_simp⟩) ⟨(HAT.out _ M.out.below).2.1, (HAT.out _ M.out.below).2.2⟩ ?_
        try simp only [List.getElem_toArray, List.getElem_cons_succ, List.getElem_cons_zero, Act.put, List.setIfInBounds_toArray, List.set_cons_zero, List.set_cons_succ]
        refine anyT_take [11, 12] (i := 10) (v := .string val) rfl (by kernel_rfl) (by kernel_rfl) (by kernel_rfl) (fun _ _ _ h => h) (by kernel_rfl) (Or.inl ⟨by rfl, fun w' hS => by have c := hS.2; go_simp⟩) ⟨(HAT.out _ M.out.below).2.1, (HAT.out _ M.out.below).2.2⟩ ?_
        try simp only [List.getElem_toArray, List.getElem_cons_succ, List.getElem_cons_zero, Act.put, List.setIfInBounds_toArray, List.set_cons_zero, List.set_cons_succ]
        refine anyT_one (i := 11) (by kernel_rfl) rfl (fun K hK => ?_)
        rw [if_pos (by rfl)]
        try simp only [List.getElem_toArray, List.getElem_cons_succ, List.getElem_cons_zero]
        (go_simp; refine (set_any u4 t key val _ (HE.out.below M.out.below HE.out.lt) M.out.tree HSZ.out (by have := HTB.out; omega)).mono ?_; rintro e w6 ⟨g6, rfl, ht, hb⟩; replace M := Lib.hid (M.out.turn hb (TreeAt.toO ht)); clear ht hb)
        refine hK _ _ (not_mem rfl) ?_
        clear hK K
        try simp only [List.getElem_toArray, List.getElem_cons_succ, List.getElem_cons_zero, Act.put, List.setIfInBounds_toArray, List.set_cons_zero, List.set_cons_succ]
        refine anyT_takeY (i := 12) (v := .pointer (some ⟨g6, 0, none⟩)) rfl (by kernel_rfl) (by kernel_rfl) (by kernel_rfl) (fun _ _ _ h => h) (by kernel_rfl) (Or.inl ⟨by rfl, by intro w; go_simp⟩) ?_
        try simp only [List.getElem_toArray, List.getElem_cons_succ, List.getElem_cons_zero, Act.put, List.setIfInBounds_toArray, List.set_cons_zero, List.set_cons_succ]
        refine anyT_done (by kernel_rfl) ?_ _
        go_upto_region 10 with (fail)
        refine wp_region_T (fun w' => w'.rangeAt (w.heap.size + 1) 0 cs.toList ∧ w'.cell? ⟨b, off + k * 3 + 1, none⟩ = some (.string key) ∧ w'.cell? ⟨b, off + k * 3 + 2, none⟩ = some (.string val)) [0, 3, 4, 5, 8, 9, 10] (by kernel_rfl) ?_
        replace M := Lib.hid (M.out.call (Below.refl _ _).drew)
        generalize w6.drew = w6' at *
        refine anyT_takeY (i := 1) (v := .slice (some ⟨b, off, none⟩) ts.length cap) rfl (by kernel_rfl) (by kernel_rfl) (by kernel_rfl) (fun _ _ _ h => h) (by kernel_rfl) (Or.inl ⟨by rfl, by intro w; go_simp⟩) ?_
        try simp only [List.getElem_toArray, List.getElem_cons_succ, List.getElem_cons_zero, Act.put, List.setIfInBounds_toArray, List.set_cons_zero, List.set_cons_succ]
        refine anyT_takeY (i := 2) (v := .int .i64 (k : Int)) rfl (by kernel_rfl) (by kernel_rfl) (by kernel_rfl) (fun _ _ _ h => h) (by kernel_rfl) (Or.inl ⟨by rfl, by intro w; go_simp⟩) ?_
        try simp only [List.getElem_toArray, List.getElem_cons_succ, List.getElem_cons_zero, Act.put, List.setIfInBounds_toArray, List.set_cons_zero, List.set_cons_succ]
        refine anyT_takeY (i := 6) (v := .slice (some ⟨b, off, none⟩) ts.length cap) rfl (by kernel_rfl) (by kernel_rfl) (by kernel_rfl) (fun _ _ _ h => h) (by kernel_rfl) (Or.inl ⟨by rfl, by intro w; go_simp⟩) ?_
        try simp only [List.getElem_toArray, List.getElem_cons_succ, List.getElem_cons_zero, Act.put, List.setIfInBounds_toArray, List.set_cons_zero, List.set_cons_succ]
        refine anyT_takeY (i := 7) (v := .int .i64 (k : Int)) rfl (by kernel_rfl) (by kernel_rfl) (by kernel_rfl) (fun _ _ _ h => h) (by kernel_rfl) (Or.inl ⟨by rfl, by intro w; go_simp⟩) ?_
        try simp only [List.getElem_toArray, List.getElem_cons_succ, List.getElem_cons_zero, Act.put, List.setIfInBounds_toArray, List.set_cons_zero, List.set_cons_succ]
        refine anyT_take [4, 5, 11, 12] (i := 3) (v := .pointer (some ⟨b, off + k * 3, none⟩)) rfl (by kernel_rfl) (by kernel_rfl) (by kernel_rfl) (fun _ _ _ h => h) (by kernel_rfl) (Or.inl ⟨by rfl, fun w' _ => by go_simp⟩) ⟨range_of M.out.blk, (HAT.out _ M.out.below).2.1, (HAT.out _ M.out.below).2.2⟩ ?_
        try simp only [List.getElem_toArray, List.getElem_cons_succ, List.getElem_cons_zero, Act.put, List.setIfInBounds_toArray, List.set_cons_zero, List.set_cons_succ]
        refine anyT_take [5, 11, 12] (i := 4) (v := .pointer (some ⟨b, off + k * 3 + 1, none⟩)) rfl (by kernel_rfl) (by kernel_rfl) (by kernel_rfl) (fun _ _ _ h => h) (by kernel_rfl) (Or.inl ⟨by rfl, fun w' _ => by go_simp⟩) ⟨range_of M.out.blk, (HAT.out _ M.out.below).2.1, (HAT.out _ M.out.below).2.2⟩ ?_
        try simp only [List.getElem_toArray, List.getElem_cons_succ, List.getElem_cons_zero, Act.put, List.setIfInBounds_toArray, List.set_cons_zero, List.set_cons_succ]
        refine anyT_take [9, 10, 11, 12] (i := 8) (v := .pointer (some ⟨b, off + k * 3, none⟩)) rfl (by kernel_rfl) (by kernel_rfl) (by kernel_rfl) (fun _ _ _ h => h) (by kernel_rfl) (Or.inl ⟨by rfl, fun w' _ => by go_simp⟩) ⟨range_of M.out.blk, (HAT.out _ M.out.below).2.1, (HAT.out _ M.out.below).2.2⟩ ?_
        try simp only [List.getElem_toArray, List.getElem_cons_succ, List.getElem_cons_zero, Act.put, List.setIfInBounds_toArray, List.set_cons_zero, List.set_cons_succ]
        refine anyT_take [10, 11, 12] (i := 9) (v := .pointer (some ⟨b, off + k * 3 + 2, none⟩)) rfl (by kernel_rfl) (by kernel_rfl) (by kernel_rfl) (fun _ _ _ h => h) (by kernel_rfl) (Or.inl ⟨by rfl, fun w' _ => by go_simp⟩) ⟨range_of M.out.blk, (HAT.out _ M.out.below).2.1, (HAT.out _ M.out.below).2.2⟩ ?_
        try simp only [List.getElem_toArray, List.getElem_cons_succ, List.getElem_cons_zero, Act.put, List.setIfInBounds_toArray, List.set_cons_zero, List.set_cons_succ]
        refine anyT_take [11, 12] (i := 0) (v := .agg cs) rfl (by kernel_rfl) (by kernel_rfl) (by kernel_rfl) (fun _ _ _ h => h) (by kernel_rfl) (agg_mid (by rfl) 29 (.tmp 5) rfl (w.heap.size + 1) 0 rfl _ _ (fun _ h => h.1) Tryd.underlying29 rfl (by rw [csZ.out]; kernel_rfl)) ⟨range_of M.out.blk, (HAT.out _ M.out.below).2.1, (HAT.out _ M.out.below).2.2⟩ ?_
        try simp only [List.getElem_toArray, List.getElem_cons_succ, List.getElem_cons_zero, Act.put, List.setIfInBounds_toArray, List.set_cons_zero, List.set_cons_succ]
        refine anyT_take [11, 12] (i := 5) (v := .string key) rfl (by kernel_rfl) (by kernel_rfl) (by kernel_rfl) (fun _ _ _ h => h) (by kernel_rfl) (Or.inl ⟨by rfl, fun w' hS => by have c := hS.2.1; go_simp⟩) ⟨range_of M.out.blk, (HAT.out _ M.out.below).2.1, (HAT.out _ M.out.below).2.2⟩ ?_
        try simp only [List.getElem_toArray, List.getElem_cons_succ, List.getElem_cons_zero, Act.put, List.setIfInBounds_toArray, List.set_cons_zero, List.set_cons_succ]
        refine anyT_take [11, 12] (i := 10) (v := .string val) rfl (by kernel_rfl) (by kernel_rfl) (by kernel_rfl) (fun _ _ _ h => h) (by kernel_rfl) (Or.inl ⟨by rfl, fun w' hS => by have c := hS.2.2; go_simp⟩) ⟨range_of M.out.blk, (HAT.out _ M.out.below).2.1, (HAT.out _ M.out.below).2.2⟩ ?_
        try simp only [List.getElem_toArray, List.getElem_cons_succ, List.getElem_cons_zero, Act.put, List.setIfInBounds_toArray, List.set_cons_zero, List.set_cons_succ]
        refine anyT_one (i := 11) (by kernel_rfl) rfl (fun K hK => ?_)
        rw [if_pos (by rfl)]
        try simp only [List.getElem_toArray, List.getElem_cons_succ, List.getElem_cons_zero]
        (go_simp; refine (rset_any t cs key val _ M.out.ro (by have := HTB.out; omega)).mono ?_; rintro e w7 ⟨u, rfl, ht, hb⟩; have HRU := Lib.hid ht; have uZ := Lib.hid (RO.size ht); have uO := Lib.hid (RO.one ht); replace M := Lib.hid (M.out.call hb); clear ht hb)
        refine hK _ _ (not_mem rfl) ?_
        clear hK K
        try simp only [List.getElem_toArray, List.getElem_cons_succ, List.getElem_cons_zero, Act.put, List.setIfInBounds_toArray, List.set_cons_zero, List.set_cons_succ]
        refine anyT_one (i := 12) (by kernel_rfl) rfl (fun K hK => ?_)
        rw [if_pos (by rfl)]
        try simp only [List.getElem_toArray, List.getElem_cons_succ, List.getElem_cons_zero]
        (refine wp_store_row 29 (.tmp 5) (.tmp 64) rfl (w.heap.size + 1) u rfl rfl 29 _ M.out.blk (by rw [uZ.out]; kernel_rfl) (by rw [uZ.out, csZ.out]) uO.out ?_)
        refine hK _ _ (not_mem rfl) ?_
        clear hK K
        try simp only [List.getElem_toArray, List.getElem_cons_succ, List.getElem_cons_zero, Act.put, List.setIfInBounds_toArray, List.set_cons_zero, List.set_cons_succ]
        refine anyT_done (by kernel_rfl) ?_ _
        replace M := Lib.hid (M.out.put HRU.out)
        rw [rsetO_eq G.out.bal key val] at M
        generalize w7.setRow (w.heap.size + 1) u = w9 at *
        go_wp2_with (fail)
        go_roundw
        case rel => exact ⟨k + 1, u, _, by omega, by omega, by go_num, M, Lib.hid (G.out.set key val HSZ0.out)⟩
        case measure => simp [intOf]; omega
    · by_cases hlt1 : k < ts.length
      · obtain rfl : k = 60 := by omega
        replace G := Lib.hid (show GT N 60 t from G.out)
        go_upto_region 11 with (fail)
        refine wp_region_T (fun w' => w'.rangeAt (w.heap.size + 1) 0 cs.toList) [1] (by kernel_rfl) ?_
        replace M := Lib.hid (M.out.call (Below.refl _ _).drew)
        generalize wr.drew = w5 at *
        refine anyT_takeY (i := 0) (v := u4) rfl (by kernel_rfl) (by kernel_rfl) (by kernel_rfl) (fun _ _ _ h => h) (by kernel_rfl) (Or.inl ⟨by rfl, by intro w; go_simp⟩) ?_
        try simp only [List.getElem_toArray, List.getElem_cons_succ, List.getElem_cons_zero, Act.put, List.setIfInBounds_toArray, List.set_cons_zero, List.set_cons_succ]
        refine anyT_takeY (i := 2) (v := u4) rfl (by kernel_rfl) (by kernel_rfl) (by kernel_rfl) (fun _ _ _ h => h) (by kernel_rfl) (Or.inl ⟨by rfl, by intro w; go_simp⟩) ?_
        try simp only [List.getElem_toArray, List.getElem_cons_succ, List.getElem_cons_zero, Act.put, List.setIfInBounds_toArray, List.set_cons_zero, List.set_cons_succ]
        refine anyT_take [3] (i := 1) (v := .agg cs) rfl (by kernel_rfl) (by kernel_rfl) (by kernel_rfl) (fun _ _ _ h => h) (by kernel_rfl) (agg_mid (by rfl) 29 (.tmp 5) rfl (w.heap.size + 1) 0 rfl _ _ (fun _ h => h) Tryd.underlying29 rfl (by rw [csZ.out]; kernel_rfl)) (range_of M.out.blk) ?_
        try simp only [List.getElem_toArray, List.getElem_cons_succ, List.getElem_cons_zero, Act.put, List.setIfInBounds_toArray, List.set_cons_zero, List.set_cons_succ]
        refine anyT_one (i := 3) (by kernel_rfl) rfl (fun K hK => ?_)
        rw [if_pos (by rfl)]
        try simp only [List.getElem_toArray, List.getElem_cons_succ, List.getElem_cons_zero]
        (refine wp_store_row 29 (.tmp 3) (.tmp 66) rfl w.heap.size cs rfl rfl 29 _ M.out.res (by rw [csZ.out]; kernel_rfl) (by rw [csZ.out]; rfl) csO.out ?_)
        refine hK _ _ (not_mem rfl) ?_
        clear hK K
        try simp only [List.getElem_toArray, List.getElem_cons_succ, List.getElem_cons_zero, Act.put, List.setIfInBounds_toArray, List.set_cons_zero, List.set_cons_succ]
        refine anyT_done (by kernel_rfl) ?_ _
        go_wp2_with (fail)
        obtain ⟨e1, e2, e3, e4⟩ := M.out.done G.out
        refine bodyPost_ret (results_tmp_cell_row rfl _ _ w.heap.size 29 cs (0, 0) _ rfl e4 Tryd.underlying29 rfl (by rw [csZ.out]; kernel_rfl)) rfl ?_
        exact ⟨u4, cs, t, rfl, e1, e2, G.out, e3⟩
      · obtain rfl : k = ts.length := by omega
        replace G := Lib.hid (G.out.mono hk60)
        go_upto_region 11 with (fail)
        refine wp_region_T (fun w' => w'.rangeAt (w.heap.size + 1) 0 cs.toList) [1] (by kernel_rfl) ?_
        replace M := Lib.hid (M.out.call (Below.refl _ _).drew)
        generalize wr.drew = w5 at *
        refine anyT_takeY (i := 0) (v := u4) rfl (by kernel_rfl) (by kernel_rfl) (by kernel_rfl) (fun _ _ _ h => h) (by kernel_rfl) (Or.inl ⟨by rfl, by intro w; go_simp⟩) ?_
        try simp only [List.getElem_toArray, List.getElem_cons_succ, List.getElem_cons_zero, Act.put, List.setIfInBounds_toArray, List.set_cons_zero, List.set_cons_succ]
        refine anyT_takeY (i := 2) (v := u4) rfl (by kernel_rfl) (by kernel_rfl) (by kernel_rfl) (fun _ _ _ h => h) (by kernel_rfl) (Or.inl ⟨by rfl, by intro w; go_simp⟩) ?_
        try simp only [List.getElem_toArray, List.getElem_cons_succ, List.getElem_cons_zero, Act.put, List.setIfInBounds_toArray, List.set_cons_zero, List.set_cons_succ]
        refine anyT_take [3] (i := 1) (v := .agg cs) rfl (by kernel_rfl) (by kernel_rfl) (by kernel_rfl) (fun _ _ _ h => h) (by kernel_rfl) (agg_mid (by rfl) 29 (.tmp 5) rfl (w.heap.size + 1) 0 rfl _ _ (fun _ h => h) Tryd.underlying29 rfl (by rw [csZ.out]; kernel_rfl)) (range_of M.out.blk) ?_
        try simp only [List.getElem_toArray, List.getElem_cons_succ, List.getElem_cons_zero, Act.put, List.setIfInBounds_toArray, List.set_cons_zero, List.set_cons_succ]
        refine anyT_one (i := 3) (by kernel_rfl) rfl (fun K hK => ?_)
        rw [if_pos (by rfl)]
        try simp only [List.getElem_toArray, List.getElem_cons_succ, List.getElem_cons_zero]
        (refine wp_store_row 29 (.tmp 3) (.tmp 66) rfl w.heap.size cs rfl rfl 29 _ M.out.res (by rw [csZ.out]; kernel_rfl) (by rw [csZ.out]; rfl) csO.out ?_)
        refine hK _ _ (not_mem rfl) ?_
        clear hK K
        try simp only [List.getElem_toArray, List.getElem_cons_succ, List.getElem_cons_zero, Act.put, List.setIfInBounds_toArray, List.set_cons_zero, List.set_cons_succ]
        refine anyT_done (by kernel_rfl) ?_ _
        go_wp2_with (fail)
        obtain ⟨e1, e2, e3, e4⟩ := M.out.done G.out
        refine bodyPost_ret (results_tmp_cell_row rfl _ _ w.heap.size 29 cs (0, 0) _ rfl e4 Tryd.underlying29 rfl (by rw [csZ.out]; kernel_rfl)) rfl ?_
        exact ⟨u4, cs, t, rfl, e1, e2, G.out, e3⟩
end Go.Proofs.YtfmfemmknccfmaaDoor
namespace Go.Proofs.YtfmfemmknccfmaaDoor
set_option linter.unusedVariables false
set_option linter.unusedSimpArgs false
open Go.RowKit
set_option maxRecDepth 100000
set_option linter.unusedSimpArgs false
set_option linter.unusedVariables false
theorem count_snoc (l : List KV) (f : KV → Bool) (k : Nat) (x : KV) (h : l[k]? = some x) : ((l.take (k + 1)).filter f).length = ((l.take k).filter f).length + (if f x then 1 else 0) := by
  have hk : k < l.length := (List.getElem?_eq_some_iff.1 h).1
  rw [List.take_succ_eq_append_getElem hk, List.filter_append, List.length_append]
  rw [List.getElem?_eq_getElem hk] at h
  injection h with h
  rw [h, List.filter_cons]
  split <;> rfl
theorem TreeO.ptr {w : World} {v : Value} {t : Option AvT} (h : TreeO w v t) : ∃ p, v = .pointer p := by
  cases t with
  | none => exact ⟨none, h⟩
  | some t => obtain ⟨g, e, _⟩ := h; exact ⟨_, e⟩
/-- between two keys -/
def between (fr hi : ByteArray) (p : KV) : Bool := !bl p.1 fr && upTo hi p
end Go.Proofs.YtfmfemmknccfmaaDoor
namespace Go.Proofs.YtfmfemmknccfmaaDoor
set_option linter.unusedVariables false
set_option linter.unusedSimpArgs false
open Go.RowKit
set_option maxRecDepth 100000
set_option linter.unusedSimpArgs false
set_option linter.unusedVariables false
def leadN (k : ByteArray) (l : List KV) : Nat := (l.takeWhile fun p => bl p.1 k).length
theorem lead_srt (k : ByteArray) : ∀ l : List KV, Srt l → leadN k l = (l.filter fun p => bl p.1 k).length
  | [], _ => rfl
  | p :: l, h => by
    obtain ⟨h1, h2⟩ := List.pairwise_cons.1 h
    unfold leadN
    cases e : bl p.1 k with
    | true =>
      have ih := lead_srt k l h2
      unfold leadN at ih
      rw [List.takeWhile_cons, if_pos e, List.filter_cons, if_pos e, List.length_cons, List.length_cons, ih]
    | false =>
      rw [List.takeWhile_cons, if_neg (by rw [e]; simp), List.filter_cons, if_neg (by rw [e]; simp), filter_no fun q hq => ?_]
      refine Bool.eq_false_iff.2 fun hq2 => ?_
      have := bl_trans (h1 q hq) hq2
      rw [e] at this; cases this
theorem lead_hit {k : ByteArray} {l : List KV} {i : Nat} {p : KV} (h : l[i]? = some p) (hp : bl p.1 k = true) : i + leadN k (l.drop i) = i + 1 + leadN k (l.drop (i + 1)) := by
  have hk : i < l.length := (List.getElem?_eq_some_iff.1 h).1
  have e : l.drop i = p :: l.drop (i + 1) := by
    rw [List.drop_eq_getElem_cons hk]
    rw [List.getElem?_eq_getElem hk] at h
    injection h with h
    rw [h]
  unfold leadN
  rw [e, List.takeWhile_cons, if_pos hp, List.length_cons]; omega
theorem lead_miss {k : ByteArray} {l : List KV} {i : Nat} {p : KV} (h : l[i]? = some p) (hp : bl p.1 k = false) : i + leadN k (l.drop i) = i := by
  have hk : i < l.length := (List.getElem?_eq_some_iff.1 h).1
  have e : l.drop i = p :: l.drop (i + 1) := by
    rw [List.drop_eq_getElem_cons hk]
    rw [List.getElem?_eq_getElem hk] at h
    injection h with h
    rw [h]
  unfold leadN
  rw [e, List.takeWhile_cons, if_neg (by rw [hp]; simp)]; rfl
theorem findO_lead {t : Option AvT} (h : Srt (pairsO t)) (k : ByteArray) : findO t k = leadN k (pairsO t) := by
  rw [lead_srt k _ h]
  cases t with
  | none => rfl
  | some t => exact find_eq k t h
set_option maxHeartbeats 2000000 in
theorem rfind_any (t : Option AvT) (cs : Array Value) (k : ByteArray) (w : World) (h : RO w cs t) (hm : manyO t ≤ 1099511627776) : Calls Tryd.prog 58 #[.agg cs, .string k] w fun e w' => e = .returned (.int .i64 (leadN k (pairsO t) : Int)) ∧ Below w.heap.size w w' := by
  have hml : (pairsO t).length ≤ 1099511627776 := by rw [manyO_eq]; exact hm
  obtain ⟨is, k0, v0, a0, n0, c0', rfl⟩ := h.form
  have HB := Lib.hid (below_alloc w (.cells #[.bool is, .string k0, .string v0, .slice a0 n0 c0'] 29))
  have HP := Lib.hid (heap_alloc_new w (.cells #[.bool is, .string k0, .string v0, .slice a0 n0 c0'] 29))
  have HR := Lib.hid (h.below HB.out)
  have HPS := Lib.hid (rpairs_any t _ _ HR.out hm)
  obtain ⟨l, hl⟩ : ∃ l, l = pairsO t := ⟨_, rfl⟩
  rw [← hl] at HPS hml ⊢
  have HG := Lib.hid (show leadN k l = 0 + leadN k (l.drop 0) by rw [List.drop_zero, Nat.zero_add])
  obtain ⟨G, hG⟩ : ∃ G, G = leadN k l := ⟨_, rfl⟩
  rw [← hG] at HG ⊢
  have HML := Lib.hid hml
  clear h hl hG hm hml
  unfold PsPost at HPS
  go_enter Tryd.func58, Tryd.ntmps58
  go_upto_region 1 with (fail)
  generalize w.alloc (.cells #[.bool is, .string k0, .string v0, .slice a0 n0 c0'] 29) = w1 at *
  go_upto_region 3 with (first
    | (refine wpList_load_row rfl 29 (.tmp 2) rfl w.heap.size rfl 29 _ (0, 0) _ HP.out Tryd.underlying29 rfl (by kernel_rfl) ?_)
    | (go_at_call 53; (with_reducible refine HPS.out.mono ?_); rintro e w4 ⟨r, rfl, ho, hb⟩; have HK := Lib.hid (KVIn.of_own ho); replace HB := Lib.hid (HB.out.trans (hb.mono HB.out.size)); clear ho hb))
  obtain ⟨ra, rc, rfl⟩ := HK.out.len
  go_loop [6] (fun x => ∃ i : Nat, i ≤ l.length ∧ x = .int .i64 (i : Int) ∧ Hid (G = i + leadN k (l.drop i))) (fun x => l.length - (intOf x).toNat)
  case atStart => exact ⟨0, Nat.zero_le _, rfl, HG⟩
  case round =>
    clear HG
    obtain ⟨i, hi, rfl, HG⟩ := hrel
    have hib : i ≤ 1099511627776 := by have := HML.out; omega
    by_cases hlt : i < l.length
    · obtain ⟨p, hp⟩ : ∃ p, l[i]? = some p := ⟨l[i], List.getElem?_eq_getElem hlt⟩
      obtain ⟨ab, ao, rfl, -, c1, c2⟩ := HK.out.at i p hp
      have hltI : (i : Int) < (l.length : Int) := by omega
      cases he : bl p.1 k with
      | true =>
        have hk : Op.bytesLess p.1.toList k.toList = true := he
        have HF := Lib.hid (HG.out.trans (lead_hit hp he))
        clear he HG hp
        go_wp2_with (fail)
        go_round
        case rel => exact ⟨i + 1, by omega, by go_num, HF⟩
        case measure => simp [intOf]; omega
      | false =>
        have hk : Op.bytesLess p.1.toList k.toList = false := he
        have HF := Lib.hid (HG.out.trans (lead_miss hp he))
        clear he HG hp
        go_wp2_with (fail)
        go_ret
        rw [HF.out]
        exact ⟨rfl, HB.out⟩
    · obtain rfl : i = l.length := by omega
      have HF := Lib.hid (show G = l.length by rw [HG.out, List.drop_length]; rfl)
      clear HG
      go_wp2_with (fail)
      go_ret
      rw [HF.out]
      exact ⟨rfl, HB.out⟩
theorem filter_snoc (l : List KV) (f : KV → Bool) (k : Nat) (x : KV) (h : l[k]? = some x) : (l.take (k + 1)).filter f = (l.take k).filter f ++ (if f x then [x] else []) := by
  have hk : k < l.length := (List.getElem?_eq_some_iff.1 h).1
  rw [List.take_succ_eq_append_getElem hk, List.filter_append]
  rw [List.getElem?_eq_getElem hk] at h
  injection h with h
  rw [h, List.filter_cons]
  split <;> rfl
end Go.Proofs.YtfmfemmknccfmaaDoor
namespace Go.Proofs.YtfmfemmknccfmaaDoor
set_option linter.unusedVariables false
set_option linter.unusedSimpArgs false
open Go.RowKit
set_option maxRecDepth 100000
set_option linter.unusedSimpArgs false
set_option linter.unusedVariables false
theorem getL_hitmem (k v : ByteArray) : ∀ l : List KV, Srt l → (getL l k = some v ↔ (k, v) ∈ l)
  | [], _ => by simp [getL]
  | p :: l, h => by
    obtain ⟨h1, h2⟩ := List.pairwise_cons.1 h
    have ih := getL_hitmem k v l h2
    unfold getL
    by_cases e : p.1 = k
    · rw [if_pos e]
      constructor
      · intro hv
        injection hv with hv
        obtain ⟨k', v'⟩ := p
        simp only at e hv
        subst e hv
        exact List.mem_cons_self
      · intro hm
        rcases List.mem_cons.1 hm with hm | hm
        · rw [← hm]
        · have := bl_ne (h1 _ hm)
          exact absurd e this
    · rw [if_neg e, ih, List.mem_cons]
      constructor
      · exact .inr
      · rintro (hm | hm)
        · exact absurd (by rw [← hm]) e
        · exact hm
theorem getL_eq {t : Option AvT} (h : Srt (pairsO t)) (k : ByteArray) : getL (pairsO t) k = getO t k := by
  cases e : getO t k with
  | some v => exact (getL_hitmem k v _ h).2 ((getO_mem h k v).1 e)
  | none =>
    cases e2 : getL (pairsO t) k with
    | none => rfl
    | some v =>
      have := (getO_mem h k v).2 ((getL_hitmem k v _ h).1 e2)
      rw [e] at this; cases this
theorem eqItems32d (f g : Nat → Int) (d : Nat) (w : World) : ∀ is : List Nat, (∀ i ∈ is, i < 32) → (Op.eqItems (d + 1) 5 1 (rowOf .u8 32 f) (rowOf .u8 32 g) is).run Tryd.prog w = .ok (is.all fun i => f i == g i) w
  | [], _ => by simp [Op.eqItems]
  | i :: is, h => by
    have hi : i < 32 := h i (by simp)
    have ha : (isAgg 5).run Tryd.prog w = .ok false w := by kernel_rfl
    have hp : ∀ f : Nat → Int, (part 5 (rowOf .u8 32 f) (i * 1)).run Tryd.prog w = .ok (.int .u8 (f i)) w := fun f => by
      simp [part, Sem.run_bind, ha, rowOf_get .u8 32 f i hi]
    have ih := eqItems32d f g d w is (fun j hj => h j (by simp [hj]))
    have pe : (Op.equalIn (d + 1) 5 (.int .u8 (f i)) (.int .u8 (g i))).run Tryd.prog w = .ok (f i == g i) w := run_equalIn_int w d 5 .u8 .u8 _ _ Tryd.underlying5
    simp only [Op.eqItems, Sem.run_bind, hp, pe, Result.andThen_ok, List.all_cons]
    cases hb : (f i == g i)
    · simp
    · simpa using ih
theorem eqIn32d (f : Nat → Int) (w : World) : (Op.equalIn 9999 43 (.agg (rowOf .u8 32 f)) (.agg (rowOf .u8 32 f))).run Tryd.prog w = .ok true w := by
  rw [run_equalIn_array w 9998 (i := (Tryd.prog.info? 5).getD default) _ _ Tryd.underlying43 (by kernel_rfl), show Tryd.prog.cellsOf 5 = 1 by kernel_rfl, eqItems32d f f 9997 w _ (fun i hi => by simpa using hi)]
  simp
theorem stepFields : (Tryd.prog.fieldsOf 119).toList.map (fun f => (f.type, f.offset, f.name != "_")) = [(4, 0, true), (3, 1, true), (43, 2, true)] := by kernel_rfl
theorem eqInStep_self (s : AvS) (w : World) : (Op.equalIn 10000 119 (.agg (stC s)) (.agg (stC s))).run Tryd.prog w = .ok true w := by
  rw [run_equalIn_struct w 9999 119 _ _ (by kernel_rfl) (by kernel_rfl)]
  have hp0 : (part 4 (stC s) 0).run Tryd.prog w = .ok (.bool s.sec) w := by kernel_rfl
  have hp1 : (part 3 (stC s) 1).run Tryd.prog w = .ok (.int .i64 s.many) w := by kernel_rfl
  have hp2 : (part 43 (stC s) 2).run Tryd.prog w = .ok (.agg (rowOf .u8 32 s.oth)) w := by kernel_rfl
  have e0 : (Op.equalIn 9999 4 (.bool s.sec) (.bool s.sec)).run Tryd.prog w = .ok true w := by
    have h := run_equalIn_bool' (P := Tryd.prog) w 9998 4 s.sec s.sec Tryd.underlying4
    rw [beq_self_eq_true] at h; exact h
  have e1 : (Op.equalIn 9999 3 (.int .i64 s.many) (.int .i64 s.many)).run Tryd.prog w = .ok true w := by
    have h := run_equalIn_int (P := Tryd.prog) w 9998 3 .i64 .i64 s.many s.many Tryd.underlying3
    rw [beq_self_eq_true] at h; exact h
  have e2 := eqIn32d s.oth w
  have hf := stepFields
  generalize (Tryd.prog.fieldsOf 119).toList = l at hf ⊢
  generalize 9999 = D at e0 e1 e2 ⊢
  rcases l with _ | ⟨f0, _ | ⟨f1, _ | ⟨f2, _ | ⟨f3, r⟩⟩⟩⟩
  · exact absurd (congrArg List.length hf) (by simp)
  · exact absurd (congrArg List.length hf) (by simp)
  · exact absurd (congrArg List.length hf) (by simp)
  · simp only [List.map_cons, List.map_nil, List.cons.injEq, Prod.mk.injEq, bne_iff_ne, and_true] at hf
    obtain ⟨⟨t0, o0, n0⟩, ⟨t1, o1, n1⟩, ⟨t2, o2, n2⟩⟩ := hf
    rw [← t0] at hp0 e0
    rw [← t1] at hp1 e1
    rw [← t2] at hp2 e2
    rw [← o0] at hp0
    rw [← o1] at hp1
    rw [← o2] at hp2
    have g2 : (Op.eqFields D (stC s) (stC s) [f2]).run Tryd.prog w = .ok true w := by
      rw [Op.eqFields, if_pos n2]
      simp only [Sem.run_bind, hp2, e2, Result.andThen_ok, Bool.not_true, Bool.false_eq_true, if_false, Op.eqFields, Sem.run_pure]
    have g1 : (Op.eqFields D (stC s) (stC s) [f1, f2]).run Tryd.prog w = .ok true w := by
      rw [Op.eqFields, if_pos n1]
      simp only [Sem.run_bind, hp1, e1, Result.andThen_ok, Bool.not_true, Bool.false_eq_true, if_false, g2]
    have g0 : (Op.eqFields D (stC s) (stC s) [f0, f1, f2]).run Tryd.prog w = .ok true w := by
      rw [Op.eqFields, if_pos n0]
      simp only [Sem.run_bind, hp0, e0, Result.andThen_ok, Bool.not_true, Bool.false_eq_true, if_false, g1]
    exact g0
  · exact absurd (congrArg List.length hf) (by simp)
theorem neqStep_self (s : AvS) (w : World) : (binOp .neq 119 (.agg (stC s)) (.agg (stC s))).run Tryd.prog w = .ok (.bool false) w := by
  rw [run_neq_struct, eqInStep_self]
  rfl
end Go.Proofs.YtfmfemmknccfmaaDoor
namespace Go.Proofs.YtfmfemmknccfmaaDoor
set_option linter.unusedVariables false
set_option linter.unusedSimpArgs false
open Go.RowKit
set_option maxRecDepth 100000
set_option linter.unusedSimpArgs false
set_option linter.unusedVariables false
end Go.Proofs.YtfmfemmknccfmaaDoor
namespace Go.Proofs.YtfmfemmknccfmaaDoor
set_option linter.unusedVariables false
set_option linter.unusedSimpArgs false
open Go.RowKit
set_option maxRecDepth 100000
set_option linter.unusedSimpArgs false
set_option linter.unusedVariables false
theorem StIn.of_own7 {w : World} {B : Nat} {v : Value} {l : List AvS} (h : w.ownsRow B 120 34 v l.length (flatSt l)) : StIn w v l := by
  rcases h.2 with ⟨rfl, h0⟩ | ⟨tb, cap, cur, rfl, _, hh, hc, hm, _⟩
  · exact ⟨none, 0, by rw [h0], by omega, by simp [maxLen]; omega, .inl (List.eq_nil_of_length_eq_zero h0)⟩
  · refine ⟨_, cap, rfl, hc, Nat.le_trans hc hm, .inr ⟨tb, 0, rfl, (Array.getElem?_eq_some_iff.1 hh).1, fun i s hi j u hu => ?_⟩⟩
    have hj : j < 34 := by have := (List.getElem?_eq_some_iff.1 hu).1; rw [AvS.cells_length] at this; exact this
    have e1 := h.cells (g := tb) rfl (i * 34 + j) u (by rw [flatSt_get l i s hi j hj]; exact hu)
    rw [Addr.add_mid] at e1
    rw [show 0 + i * 34 + j = 0 + (i * 34 + j) by omega]; exact e1
theorem ownsRow_set {w : World} {B g : Nat} {t : TypeId} {n m : Nat} {v : Value} {xs : List Value} {cs : Array Value} (h : w.ownsRow B t n v m xs) (hg : g < B) : (w.setRow g cs).ownsRow B t n v m xs :=
  ⟨h.1, h.2.imp id fun ⟨b, cap, cur, e, h0, hb, r⟩ => ⟨b, cap, cur, e, h0, (setRow_other _ _ _ _ (by omega)).trans hb, r⟩⟩
theorem wpList_eql32 {w : World} {ops : Array Oper} {rest : List Oper} {o : Oper} {a : Act} {Q : Exit → Act → World → Prop} (hw : Region.wanted o (yielded ops a.tmps) = true) (x y : Operand) (ho : o.op = .binOp .eql 43 x y 43) (f : Nat → Int)
    (hx : a.eval x = .agg (rowOf .u8 32 f)) (hy : a.eval y = .agg (rowOf .u8 32 f)) (h : wpList Tryd.prog ops Q rest (a.put o.dst (.bool true)) w) : wpList Tryd.prog ops Q (o :: rest) a w :=
  BigFrame.wpList_want hw fun K hK => by
    have hk := hK _ _ h
    have h1 := eqIn32_self f w
    unfold Oper.wp execOp
    simp only [ho, hx, hy]
    go_simp
    exact hk
theorem st_yields {ops : Array Oper} {S : World → Prop} {op : Oper} {a : Act} (hw : Region.wanted op (yielded ops a.tmps) = true) (ty : TypeId) (x : Operand) (ho : op.op = .load ty x)
    (b o : Nat) (hx : a.eval x = .pointer (some ⟨b, o, none⟩)) (s : AvS) (d : TypeDesc) (hS : ∀ w, S w → w.rangeAt b o s.cells)
    (hu : Tryd.prog.underlying ty = some d) (hd : d.isRow = true) (hi : (Tryd.prog.info? ty).map (·.size) = some 34) : YieldsIf Tryd.prog ops S op (.agg (stC s)) a := by
  have h := yieldsIf_load_mid (P := Tryd.prog) (S := S) hw ty x ho b o hx s.cells d hS hu hd (by rw [hi, AvS.cells_length])
  unfold AvS.cells at h
  simpa using h
theorem execStep {w : World} {o : Oper} {ρ : Operand → Value} (x y : Operand) (ho : o.op = .binOp .neq 119 x y 119) (s : AvS) (hx : ρ x = .agg (stC s)) (hy : ρ y = .agg (stC s)) : (execOp ρ o).run Tryd.prog w = .ok (.value (.bool false)) w := by
  have hb := neqStep_self s w
  have hg : (eqGuard .neq 119 x y (.agg (stC s)) (.agg (stC s))).run Tryd.prog w = .ok () w := by
    have h1 : Tryd.prog.eqGuardType Tryd.prog.depth 119 = false := by kernel_rfl
    unfold eqGuard
    go_simp
  unfold execOp
  simp only [ho, hx, hy, Sem.run_bind, hg, hb, Result.andThen_ok, Sem.run_pure]
theorem zeroH_built : Tryd.prog.built 43 [] = some (rowOf .u8 32 fun _ => 0) := by kernel_rfl
/-- what the loads of the last region want -/
def ruS (w : World) (ga g6 : Nat) (K T : ByteArray) (cs : Array Value) : Prop :=
  w.cell? ⟨ga, 0, none⟩ = some (.string K) ∧ w.cell? ⟨ga, 1, none⟩ = some (.string T) ∧ w.heap[g6]? = some (.cells cs 29 (0, 0))
theorem r7_yields {ops : Array Oper} {S : World → Prop} {op : Oper} {a : Act} (hw : Region.wanted op (yielded ops a.tmps) = true) (x : Operand) (ho : op.op = .load 29 x)
    (b : Nat) (hx : a.eval x = .pointer (some ⟨b, 0, none⟩)) (cs : Array Value) (hS : ∀ w, S w → w.heap[b]? = some (.cells cs 29 (0, 0))) (hz : cs.size = 4) : YieldsIf Tryd.prog ops S op (.agg cs) a := by
  have h := yieldsIf_load_mid (P := Tryd.prog) (S := S) hw 29 x ho b 0 hx cs.toList _ (fun w h j v hv => by rw [Nat.zero_add, cell_of_row w b j _ _ _ (hS w h)]; simpa using hv) Tryd.underlying29 rfl (by rw [Array.length_toList, hz]; kernel_rfl)
  simpa using h
end Go.Proofs.YtfmfemmknccfmaaDoor

/- Part 44 of the proof. -/
import Derived.Test.YtadolfacjolbkaaDoorSh21
namespace Go.Proofs.YtadolfacjolbkaaDoor
set_option linter.unusedVariables false
set_option linter.unusedSimpArgs false
open Go.RowKit
set_option maxRecDepth 100000
set_option linter.unusedSimpArgs false
set_option linter.unusedVariables false
theorem joinN_right (a b : AvT) (h1 : a.height ≤ b.height + 2) (h2 : b.height ≤ a.height + 2) : rightN a b = joinN a b := by
  unfold rightN joinN
  by_cases c1 : a.height = b.height + 2
  · rw [if_pos c1, if_pos (by omega)]
    cases a <;> rfl
  · rw [if_neg c1, if_neg (show ¬ b.height + 1 < a.height by omega)]
    by_cases c2 : b.height = a.height + 2
    · rw [if_pos c2, if_pos (show a.height + 1 < b.height by omega)]
      cases b <;> rfl
    · rw [if_neg c2, if_neg (show ¬ a.height + 1 < b.height by omega)]
def AvT.rset (k v : ByteArray) : AvT → AvT
  | .leaf k0 v0 => if k0 = k then .leaf k v else if bl k k0 then .node (.leaf k v) (.leaf k0 v0) else .node (.leaf k0 v0) (.leaf k v)
  | .node a b => if bl k b.least then rightN (a.rset k v) b else rightN a (b.rset k v)
theorem rset_eq (k v : ByteArray) : ∀ t : AvT, t.bal → t.rset k v = t.set k v
  | .leaf k0 v0, _ => by
    unfold AvT.rset AvT.set
    by_cases h : k0 = k
    · rw [if_pos h, if_pos h.symm]
    · rw [if_neg h, if_neg (show ¬ k = k0 from fun e => h e.symm)]
  | .node a b, ⟨h1, h2, h3, h4⟩ => by
    unfold AvT.rset AvT.set
    split
    · rw [rset_eq k v a h1]
      obtain ⟨i1, i2, i3⟩ := set_spec k v a h1
      exact joinN_right _ _ (by omega) (by omega)
    · rw [rset_eq k v b h2]
      obtain ⟨i1, i2, i3⟩ := set_spec k v b h2
      exact joinN_right _ _ (by omega) (by omega)
theorem rset_many (k v : ByteArray) : ∀ t : AvT, (t.rset k v).many ≤ t.many + 1
  | .leaf k0 v0 => by
    unfold AvT.rset
    split
    · simp [AvT.many]
    · split <;> simp [AvT.many]
  | .node a b => by
    unfold AvT.rset
    have := rset_many k v a
    have := rset_many k v b
    split <;> rw [rightN_many] <;> simp only [AvT.many] <;> omega
def joinR : Option AvT → Option AvT → Option AvT
  | none, s => s
  | some a, none => some a
  | some a, some b => some (rightN a b)
def AvT.rdrop (k : ByteArray) : AvT → Option AvT
  | .leaf k0 v0 => if (getL [(k0, v0)] k).isSome then none else some (.leaf k0 v0)
  | .node a b => if (getL (a.pairs ++ b.pairs) k).isSome then joinR (a.rdrop k) (b.rdrop k) else some (.node a b)
theorem getL_some (k : ByteArray) : ∀ l : List KV, (getL l k).isSome = true ↔ ∃ v, (k, v) ∈ l
  | [] => by simp [getL]
  | p :: l => by
    unfold getL
    split
    · rename_i h
      simp only [Option.isSome_some, true_iff]
      exact ⟨p.2, by rw [← h]; exact List.mem_cons_self ..⟩
    · rename_i h
      rw [getL_some k l]
      constructor
      · rintro ⟨v, hv⟩; exact ⟨v, List.mem_cons_of_mem _ hv⟩
      · rintro ⟨v, hv⟩
        rcases List.mem_cons.1 hv with e | hv
        · exact absurd (by rw [← e]) h
        · exact ⟨v, hv⟩
theorem rdrop_no (k : ByteArray) (t : AvT) (h : ¬ ∃ v, (k, v) ∈ t.pairs) : t.rdrop k = some t := by
  cases t with
  | leaf k0 v0 => unfold AvT.rdrop; rw [if_neg (show ¬ (getL [(k0, v0)] k).isSome = true from fun e => h ((getL_some k _).1 e))]
  | node a b => unfold AvT.rdrop; rw [if_neg (show ¬ (getL (a.pairs ++ b.pairs) k).isSome = true from fun e => h ((getL_some k _).1 e))]
theorem get_some_mem (k : ByteArray) (t : AvT) (h : Srt t.pairs) : (t.get k).isSome = true ↔ ∃ v, (k, v) ∈ t.pairs := by
  constructor
  · intro e
    obtain ⟨v, hv⟩ := Option.isSome_iff_exists.1 e
    exact ⟨v, (get_mem k t h v).1 hv⟩
  · rintro ⟨v, hv⟩
    rw [(get_mem k t h v).2 hv]; rfl
theorem rdrop_eq (k : ByteArray) : ∀ t : AvT, t.bal → Srt t.pairs → t.rdrop k = dropO (some t) k
  | .leaf k0 v0, _, hs => by
    unfold AvT.rdrop dropO
    dsimp only
    by_cases h : ∃ v, (k, v) ∈ (AvT.leaf k0 v0).pairs
    · rw [if_pos (show (getL [(k0, v0)] k).isSome = true from (getL_some k _).2 h), if_pos ((get_some_mem k _ hs).2 h)]; rfl
    · rw [if_neg (show ¬ (getL [(k0, v0)] k).isSome = true from fun e => h ((getL_some k _).1 e)), if_neg (fun e => h ((get_some_mem k _ hs).1 e))]
  | .node a b, ⟨h1, h2, h3, h4⟩, hs => by
    have hs' : Srt (a.pairs ++ b.pairs) := hs
    obtain ⟨sa, sb, sab⟩ := Srt.append.1 hs'
    have ia := rdrop_eq k a h1 sa
    have ib := rdrop_eq k b h2 sb
    by_cases h : ∃ v, (k, v) ∈ (AvT.node a b).pairs
    · unfold AvT.rdrop dropO
      dsimp only
      rw [if_pos (show (getL (a.pairs ++ b.pairs) k).isSome = true from (getL_some k _).2 h), if_pos ((get_some_mem k _ hs).2 h)]
      unfold AvT.without
      obtain ⟨v, hv⟩ := h
      have hv' : (k, v) ∈ a.pairs ∨ (k, v) ∈ b.pairs := List.mem_append.1 hv
      split
      · rename_i hk
        have lo := hs'.node_lo hk
        have hb : ¬ ∃ v, (k, v) ∈ b.pairs := fun ⟨v, e⟩ => by have := lo _ e; rw [bl_irrefl] at this; cases this
        have ha : ∃ v, (k, v) ∈ a.pairs := hv'.elim (fun e => ⟨v, e⟩) fun e => absurd ⟨v, e⟩ hb
        rw [rdrop_no k b hb, ia]
        unfold dropO
        dsimp only
        rw [if_pos ((get_some_mem k a sa).2 ha)]
        obtain ⟨w1, w2, w3⟩ := without_spec k a h1
        cases e : a.without k with
        | none => rfl
        | some a' => rw [e] at w2 w3; simp only [heightO] at w2 w3; simp only [joinR, joinO]; rw [joinN_right _ _ (by omega) (by omega)]
      · rename_i hk
        have hi := hs'.node_hi (Bool.eq_false_iff.2 hk)
        have ha : ¬ ∃ v, (k, v) ∈ a.pairs := fun ⟨v, e⟩ => by have := hi _ e; rw [bl_irrefl] at this; cases this
        have hb : ∃ v, (k, v) ∈ b.pairs := hv'.elim (fun e => absurd ⟨v, e⟩ ha) fun e => ⟨v, e⟩
        rw [rdrop_no k a ha, ib]
        unfold dropO
        dsimp only
        rw [if_pos ((get_some_mem k b sb).2 hb)]
        obtain ⟨w1, w2, w3⟩ := without_spec k b h2
        cases e : b.without k with
        | none => rfl
        | some b' => rw [e] at w2 w3; simp only [heightO] at w2 w3; simp only [joinR, joinO]; rw [joinN_right _ _ (by omega) (by omega)]
    · rw [rdrop_no k _ h]
      unfold dropO
      dsimp only
      rw [if_neg (fun e => h ((get_some_mem k _ hs).1 e))]
theorem joinR_many (a b : Option AvT) : manyO (joinR a b) = manyO a + manyO b := by
  cases a with
  | none => simp [joinR, manyO]
  | some a =>
    cases b with
    | none => simp [joinR, manyO]
    | some b => exact rightN_many a b
theorem rdrop_many (k : ByteArray) : ∀ t : AvT, manyO (t.rdrop k) ≤ t.many
  | .leaf k0 v0 => by unfold AvT.rdrop; split <;> simp [manyO, AvT.many]
  | .node a b => by
    unfold AvT.rdrop
    have := rdrop_many k a
    have := rdrop_many k b
    split
    · rw [joinR_many]; simp only [AvT.many]; omega
    · exact Nat.le_refl _
/-- what lies in memory while Set or Drop goes on: the tree's block, the result's -/
structure DM (w w' : World) (cs : Array Value) (t : Option AvT) : Prop where
  below : Below w.heap.size w w'
  pa : w'.heap[w.heap.size]? = some (.cells cs 29 (0, 0))
  re : w'.heap[w.heap.size + 1]? = some (.cells zR 29 (0, 0))
  t : RO w' cs t
theorem DM.call {w w' w2 : World} {cs : Array Value} {t : Option AvT} (m : DM w w' cs t) (h : Below w'.heap.size w' w2) : DM w w2 cs t :=
  ⟨m.below.trans (h.mono m.below.size), (h.block _ (blk_lt m.pa)).trans m.pa, (h.block _ (blk_lt m.re)).trans m.re, m.t.below h⟩
theorem DM.put {w w' : World} {cs new old : Array Value} {t : Option AvT} {g : Nat} (m : DM w w' cs t) (hg : w'.heap[g]? = some (.cells old 29 (0, 0))) (hs : old.size = 4) (hl : w.heap.size + 1 < g) : DM w (w'.setRow g new) cs t :=
  ⟨below_setRow m.below (by omega) _, (setRow_other _ _ _ _ (by omega)).trans m.pa, (setRow_other _ _ _ _ (by omega)).trans m.re, m.t.setRow hg hs⟩
theorem DM.done {w w' : World} {ca cs : Array Value} {a t : Option AvT} (m : DM w w' ca a) (h : RO w' cs t) : Below w.heap.size w (w'.setRow (w.heap.size + 1) cs) ∧ RO (w'.setRow (w.heap.size + 1) cs) cs t ∧ (w'.setRow (w.heap.size + 1) cs).heap[w.heap.size + 1]? = some (.cells cs 29 (0, 0)) :=
  ⟨below_setRow m.below (by omega) _, RO.setRow m.re rfl h, setRow_heap _ _ _ _ _ _ m.re⟩
def dmW (w : World) (cs : Array Value) : World := (w.alloc (.cells cs 29)).alloc (.cells zR 29)
theorem dm_start {w : World} {cs : Array Value} {t : Option AvT} (h : RO w cs t) : DM w (dmW w cs) cs t := by
  have hB : Below w.heap.size w (dmW w cs) := (below_alloc w _).trans ((below_alloc _ _).mono (by simp))
  refine ⟨hB, ?_, ?_, h.below hB⟩
  · unfold dmW; rw [heap_alloc_old _ _ (by simp), heap_alloc_new]
  · unfold dmW
    have := heap_alloc_new (w.alloc (.cells cs 29)) (.cells zR 29)
    rw [size_alloc] at this; exact this
theorem rset_none (k v : ByteArray) (w : World) : Calls Tryd.prog 30 #[.agg (rC false eBA eBA (.slice none 0 0)), .string k, .string v] w (NewR (some (.leaf k v)) w) := by
  have M := Lib.hid (dm_start (w := w) (cs := rC false eBA eBA (.slice none 0 0)) (t := none) rfl)
  unfold rC eBA at *
  unfold NewR
  go_enter Tryd.func30, Tryd.ntmps30
  go_upto_region 1 with (fail)
  have e0 : (w.alloc (.cells #[.bool false, .string { data := #[] }, .string { data := #[] }, .slice none 0 0] 29)).alloc (.cells #[.bool false, .string { data := #[] }, .string { data := #[] }, .slice none 0 0] 29) = dmW w #[.bool false, .string { data := #[] }, .string { data := #[] }, .slice none 0 0] := rfl
  rw [e0]
  clear e0
  generalize dmW w #[.bool false, .string { data := #[] }, .string { data := #[] }, .slice none 0 0] = w1 at *
  obtain ⟨c0, -, -, c3⟩ := r_cells M.out.pa
  go_wp2_with (first
    | (go_at_call 56; (with_reducible refine (rleaf_any k v _).mono ?_); rintro e w3 ⟨u1, rfl, ht, hb⟩; have HRu1 := Lib.hid ht; have u1Z := Lib.hid (RO.size ht); have u1O := Lib.hid (RO.one ht); replace M := Lib.hid (M.out.call hb); clear ht hb)
    | (refine wpList_store_row rfl 29 (.tmp 6) (.tmp 12) rfl (w.heap.size + 1) u1 rfl rfl 29 _ M.out.re (by rw [u1Z.out]; kernel_rfl) (by rw [u1Z.out]; rfl) u1O.out ?_))
  obtain ⟨e1, e2, e3⟩ := M.out.done HRu1.out
  refine bodyPost_ret (results_cell_row rfl _ _ (w.heap.size + 1) 29 u1 (0, 0) _ rfl e3 Tryd.underlying29 rfl (by rw [u1Z.out]; kernel_rfl)) rfl ?_
  exact ⟨_, rfl, e2, e1⟩
set_option maxHeartbeats 4000000 in
theorem rset_leaf (k0 v0 k v : ByteArray) (w : World) : Calls Tryd.prog 30 #[.agg (rC true k0 v0 (.slice none 0 0)), .string k, .string v] w (NewR (some ((AvT.leaf k0 v0).rset k v)) w) := by
  have M := Lib.hid (dm_start (w := w) (cs := rC true k0 v0 (.slice none 0 0)) (t := some (.leaf k0 v0)) rfl)
  have HT := Lib.hid (fun w (m : RO w (rC true k0 v0 (.slice none 0 0)) (some (.leaf k0 v0))) => m)
  by_cases h1 : k0 = k
  · have HF := Lib.hid (show some ((AvT.leaf k0 v0).rset k v) = some (AvT.leaf k v) by rw [AvT.rset, if_pos h1])
    have hk : (k0.toList == k.toList) = true := by rw [beqL]; simp [h1]
    clear h1
    unfold rC at *
    unfold NewR
    go_enter Tryd.func30, Tryd.ntmps30
    go_upto_region 1 with (fail)
    have e0 : (w.alloc (.cells #[.bool true, .string k0, .string v0, .slice none 0 0] 29)).alloc (.cells #[.bool false, .string { data := #[] }, .string { data := #[] }, .slice none 0 0] 29) = dmW w #[.bool true, .string k0, .string v0, .slice none 0 0] := rfl
    rw [e0]
    clear e0
    generalize dmW w #[.bool true, .string k0, .string v0, .slice none 0 0] = w1 at *
    obtain ⟨c0, c1, -, c3⟩ := r_cells M.out.pa
    go_wp2_with (first
      | (go_at_call 56; (with_reducible refine (rleaf_any k v _).mono ?_); rintro e w3 ⟨u1, rfl, ht, hb⟩; have HRu1 := Lib.hid ht; have u1Z := Lib.hid (RO.size ht); have u1O := Lib.hid (RO.one ht); replace M := Lib.hid (M.out.call hb); clear ht hb)
      | (refine wpList_store_row rfl 29 (.tmp 6) (.tmp 23) rfl (w.heap.size + 1) u1 rfl rfl 29 _ M.out.re (by rw [u1Z.out]; kernel_rfl) (by rw [u1Z.out]; rfl) u1O.out ?_))
    obtain ⟨e1, e2, e3⟩ := M.out.done HRu1.out
    refine bodyPost_ret (results_cell_row rfl _ _ (w.heap.size + 1) 29 u1 (0, 0) _ rfl e3 Tryd.underlying29 rfl (by rw [u1Z.out]; kernel_rfl)) rfl ?_
    rw [HF.out]
    exact ⟨_, rfl, e2, e1⟩
  · have hk : (k0.toList == k.toList) = false := by rw [beqL]; simp [h1]
    cases h2 : bl k k0 with
    | true =>
      have HF := Lib.hid (show some ((AvT.leaf k0 v0).rset k v) = some (.node (.leaf k v) (.leaf k0 v0)) by rw [AvT.rset, if_neg h1, if_pos h2])
      have hl : Op.bytesLess k.toList k0.toList = true := h2
      clear h1 h2
      unfold rC at *
      unfold NewR
      go_enter Tryd.func30, Tryd.ntmps30
      go_upto_region 1 with (fail)
      have e0 : (w.alloc (.cells #[.bool true, .string k0, .string v0, .slice none 0 0] 29)).alloc (.cells #[.bool false, .string { data := #[] }, .string { data := #[] }, .slice none 0 0] 29) = dmW w #[.bool true, .string k0, .string v0, .slice none 0 0] := rfl
      rw [e0]
      clear e0
      generalize dmW w #[.bool true, .string k0, .string v0, .slice none 0 0] = w1 at *
      obtain ⟨c0, c1, -, c3⟩ := r_cells M.out.pa
      go_upto_region 7 with (fail)
      refine wp_region_T (fun w' => w'.rangeAt w.heap.size 0 (#[.bool true, .string k0, .string v0, .slice none 0 0] : Array Value).toList) [2, 3] (by kernel_rfl) ?_
      replace M := Lib.hid (M.out.call (Below.refl _ _).drew)
      clear c0 c1 c3
      generalize w1.drew = w2 at *
      refine anyT_takeY (i := 0) (v := .string k) rfl (by kernel_rfl) (by kernel_rfl) (by kernel_rfl) (fun _ _ _ h => h) (by kernel_rfl) (Or.inl ⟨by rfl, by intro w; go_simp⟩) ?_
      try simp only [List.getElem_toArray, List.getElem_cons_succ, List.getElem_cons_zero, Act.put, List.setIfInBounds_toArray, List.set_cons_zero, List.set_cons_succ]
      refine anyT_takeY (i := 1) (v := .string v) rfl (by kernel_rfl) (by kernel_rfl) (by kernel_rfl) (fun _ _ _ h => h) (by kernel_rfl) (Or.inl ⟨by rfl, by intro w; go_simp⟩) ?_
      try simp only [List.getElem_toArray, List.getElem_cons_succ, List.getElem_cons_zero, Act.put, List.setIfInBounds_toArray, List.set_cons_zero, List.set_cons_succ]
      refine anyT_take [4, 5] (i := 3) (v := .agg #[.bool true, .string k0, .string v0, .slice none 0 0]) rfl (by kernel_rfl) (by kernel_rfl) (by kernel_rfl) (fun _ _ _ h => h) (by kernel_rfl) (agg_mid (by rfl) 29 (.tmp 3) rfl w.heap.size 0 rfl _ _ (fun _ h => h) Tryd.underlying29 rfl (by kernel_rfl)) (range_of M.out.pa) ?_
      try simp only [List.getElem_toArray, List.getElem_cons_succ, List.getElem_cons_zero, Act.put, List.setIfInBounds_toArray, List.set_cons_zero, List.set_cons_succ]
      refine anyT_one (i := 2) (by kernel_rfl) rfl (fun K hK => ?_)
      rw [if_pos (by rfl)]
      try simp only [List.getElem_toArray, List.getElem_cons_succ, List.getElem_cons_zero]
      (go_simp; refine (rleaf_any k v _).mono ?_; rintro e w3 ⟨u1, rfl, ht, hb⟩; have HRu1 := Lib.hid ht; have u1Z := Lib.hid (RO.size ht); have u1O := Lib.hid (RO.one ht); replace M := Lib.hid (M.out.call hb); clear ht hb)
      refine hK _ _ (fun _ => range_of M.out.pa) ?_
      clear hK K
      try simp only [List.getElem_toArray, List.getElem_cons_succ, List.getElem_cons_zero, Act.put, List.setIfInBounds_toArray, List.set_cons_zero, List.set_cons_succ]
      refine anyT_one (i := 4) (by kernel_rfl) rfl (fun K hK => ?_)
      rw [if_pos (by rfl)]
      try simp only [List.getElem_toArray, List.getElem_cons_succ, List.getElem_cons_zero]
      (go_simp; refine (rtwo_any _ _ (.leaf k v) (.leaf k0 v0) _ HRu1.out M.out.t).mono ?_; rintro e w4 ⟨u2, rfl, ht, hb⟩; have HRu2 := Lib.hid ht; have u2Z := Lib.hid (RO.size ht); have u2O := Lib.hid (RO.one ht); replace M := Lib.hid (M.out.call hb); clear ht hb)
      refine hK _ _ (not_mem rfl) ?_
      clear hK K
      try simp only [List.getElem_toArray, List.getElem_cons_succ, List.getElem_cons_zero, Act.put, List.setIfInBounds_toArray, List.set_cons_zero, List.set_cons_succ]
      refine anyT_one (i := 5) (by kernel_rfl) rfl (fun K hK => ?_)
      rw [if_pos (by rfl)]
      try simp only [List.getElem_toArray, List.getElem_cons_succ, List.getElem_cons_zero]
      (refine wp_store_row 29 (.tmp 6) (.tmp 32) rfl (w.heap.size + 1) u2 rfl rfl 29 _ M.out.re (by rw [u2Z.out]; kernel_rfl) (by rw [u2Z.out]; rfl) u2O.out ?_)
      refine hK _ _ (not_mem rfl) ?_
      clear hK K
      try simp only [List.getElem_toArray, List.getElem_cons_succ, List.getElem_cons_zero, Act.put, List.setIfInBounds_toArray, List.set_cons_zero, List.set_cons_succ]
      refine anyT_done (by kernel_rfl) ?_ _
      go_wp2_with (fail)
      obtain ⟨e1, e2, e3⟩ := M.out.done HRu2.out
      refine bodyPost_ret (results_cell_row rfl _ _ (w.heap.size + 1) 29 u2 (0, 0) _ rfl e3 Tryd.underlying29 rfl (by rw [u2Z.out]; kernel_rfl)) rfl ?_
      rw [HF.out]
      exact ⟨_, rfl, e2, e1⟩
    | false =>
      have HF := Lib.hid (show some ((AvT.leaf k0 v0).rset k v) = some (.node (.leaf k0 v0) (.leaf k v)) by rw [AvT.rset, if_neg h1, if_neg (by rw [h2]; simp)])
      have hl : Op.bytesLess k.toList k0.toList = false := h2
      clear h1 h2
      unfold rC at *
      unfold NewR
      go_enter Tryd.func30, Tryd.ntmps30
      go_upto_region 1 with (fail)
      have e0 : (w.alloc (.cells #[.bool true, .string k0, .string v0, .slice none 0 0] 29)).alloc (.cells #[.bool false, .string { data := #[] }, .string { data := #[] }, .slice none 0 0] 29) = dmW w #[.bool true, .string k0, .string v0, .slice none 0 0] := rfl
      rw [e0]
      clear e0
      generalize dmW w #[.bool true, .string k0, .string v0, .slice none 0 0] = w1 at *
      obtain ⟨c0, c1, -, c3⟩ := r_cells M.out.pa
      go_upto_region 8 with (fail)
      refine wp_region_T (fun w' => w'.rangeAt w.heap.size 0 (#[.bool true, .string k0, .string v0, .slice none 0 0] : Array Value).toList) [0, 3] (by kernel_rfl) ?_
      replace M := Lib.hid (M.out.call (Below.refl _ _).drew)
      clear c0 c1 c3
      generalize w1.drew = w2 at *
      refine anyT_takeY (i := 1) (v := .string k) rfl (by kernel_rfl) (by kernel_rfl) (by kernel_rfl) (fun _ _ _ h => h) (by kernel_rfl) (Or.inl ⟨by rfl, by intro w; go_simp⟩) ?_
      try simp only [List.getElem_toArray, List.getElem_cons_succ, List.getElem_cons_zero, Act.put, List.setIfInBounds_toArray, List.set_cons_zero, List.set_cons_succ]
      refine anyT_takeY (i := 2) (v := .string v) rfl (by kernel_rfl) (by kernel_rfl) (by kernel_rfl) (fun _ _ _ h => h) (by kernel_rfl) (Or.inl ⟨by rfl, by intro w; go_simp⟩) ?_
      try simp only [List.getElem_toArray, List.getElem_cons_succ, List.getElem_cons_zero, Act.put, List.setIfInBounds_toArray, List.set_cons_zero, List.set_cons_succ]
      refine anyT_take [4, 5] (i := 0) (v := .agg #[.bool true, .string k0, .string v0, .slice none 0 0]) rfl (by kernel_rfl) (by kernel_rfl) (by kernel_rfl) (fun _ _ _ h => h) (by kernel_rfl) (agg_mid (by rfl) 29 (.tmp 3) rfl w.heap.size 0 rfl _ _ (fun _ h => h) Tryd.underlying29 rfl (by kernel_rfl)) (range_of M.out.pa) ?_
      try simp only [List.getElem_toArray, List.getElem_cons_succ, List.getElem_cons_zero, Act.put, List.setIfInBounds_toArray, List.set_cons_zero, List.set_cons_succ]
      refine anyT_one (i := 3) (by kernel_rfl) rfl (fun K hK => ?_)
      rw [if_pos (by rfl)]
      try simp only [List.getElem_toArray, List.getElem_cons_succ, List.getElem_cons_zero]
      (go_simp; refine (rleaf_any k v _).mono ?_; rintro e w3 ⟨u1, rfl, ht, hb⟩; have HRu1 := Lib.hid ht; have u1Z := Lib.hid (RO.size ht); have u1O := Lib.hid (RO.one ht); replace M := Lib.hid (M.out.call hb); clear ht hb)
      refine hK _ _ (fun _ => range_of M.out.pa) ?_
      clear hK K
      try simp only [List.getElem_toArray, List.getElem_cons_succ, List.getElem_cons_zero, Act.put, List.setIfInBounds_toArray, List.set_cons_zero, List.set_cons_succ]
      refine anyT_one (i := 4) (by kernel_rfl) rfl (fun K hK => ?_)
      rw [if_pos (by rfl)]
      try simp only [List.getElem_toArray, List.getElem_cons_succ, List.getElem_cons_zero]
      (go_simp; refine (rtwo_any _ _ (.leaf k0 v0) (.leaf k v) _ M.out.t HRu1.out).mono ?_; rintro e w4 ⟨u2, rfl, ht, hb⟩; have HRu2 := Lib.hid ht; have u2Z := Lib.hid (RO.size ht); have u2O := Lib.hid (RO.one ht); replace M := Lib.hid (M.out.call hb); clear ht hb)
      refine hK _ _ (not_mem rfl) ?_
      clear hK K
      try simp only [List.getElem_toArray, List.getElem_cons_succ, List.getElem_cons_zero, Act.put, List.setIfInBounds_toArray, List.set_cons_zero, List.set_cons_succ]
      refine anyT_one (i := 5) (by kernel_rfl) rfl (fun K hK => ?_)
      rw [if_pos (by rfl)]
      try simp only [List.getElem_toArray, List.getElem_cons_succ, List.getElem_cons_zero]
      (refine wp_store_row 29 (.tmp 6) (.tmp 37) rfl (w.heap.size + 1) u2 rfl rfl 29 _ M.out.re (by rw [u2Z.out]; kernel_rfl) (by rw [u2Z.out]; rfl) u2O.out ?_)
      refine hK _ _ (not_mem rfl) ?_
      clear hK K
      try simp only [List.getElem_toArray, List.getElem_cons_succ, List.getElem_cons_zero, Act.put, List.setIfInBounds_toArray, List.set_cons_zero, List.set_cons_succ]
      refine anyT_done (by kernel_rfl) ?_ _
      go_wp2_with (fail)
      obtain ⟨e1, e2, e3⟩ := M.out.done HRu2.out
      refine bodyPost_ret (results_cell_row rfl _ _ (w.heap.size + 1) 29 u2 (0, 0) _ rfl e3 Tryd.underlying29 rfl (by rw [u2Z.out]; kernel_rfl)) rfl ?_
      rw [HF.out]
      exact ⟨_, rfl, e2, e1⟩
set_option maxHeartbeats 4000000 in
theorem rset_node (a b : AvT) (k v : ByteArray) (cs : Array Value) (w : World) (hcs : RT w cs (.node a b)) (hm : a.many + b.many + 1 ≤ 1099511627776)
    (iha : ∀ (w : World) (cs : Array Value), RT w cs a → Calls Tryd.prog 30 #[.agg cs, .string k, .string v] w (NewR (some (a.rset k v)) w))
    (ihb : ∀ (w : World) (cs : Array Value), RT w cs b → Calls Tryd.prog 30 #[.agg cs, .string k, .string v] w (NewR (some (b.rset k v)) w)) :
    Calls Tryd.prog 30 #[.agg cs, .string k, .string v] w (NewR (some ((AvT.node a b).rset k v)) w) := by
  obtain ⟨bk, ca, cb, rfl, hbk, r1, r2, ta, tb⟩ := hcs
  have M := Lib.hid (dm_start (w := w) (t := some (.node a b)) (show RT w _ (.node a b) from ⟨bk, ca, cb, rfl, hbk, r1, r2, ta, tb⟩))
  have HZA := Lib.hid ta.size
  have HZB := Lib.hid tb.size
  have HBK := Lib.hid (show bk < Array.size (World.heap _) from Nat.lt_of_lt_of_le hbk M.out.below.size)
  have HXY := Lib.hid (show RT _ ca a ∧ RT _ cb b from ⟨ta.below M.out.below, tb.below M.out.below⟩)
  have HSX := Lib.hid (show World.cell? _ ⟨w.heap.size, 3, none⟩ = some (.slice (some ⟨bk, 0, none⟩) 2 2) ∧ World.rangeAt _ bk 0 ca.toList ∧ World.rangeAt _ bk 4 cb.toList from ⟨(r_cells M.out.pa).2.2.2, range_below r1 M.out.below hbk, range_below r2 M.out.below hbk⟩)
  have HKX : Hid (∀ u1 u2 : World, (u1.cell? ⟨w.heap.size, 3, none⟩ = some (.slice (some ⟨bk, 0, none⟩) 2 2) ∧ u1.rangeAt bk 0 ca.toList ∧ u1.rangeAt bk 4 cb.toList) → Below u1.heap.size u1 u2 → (w.heap.size < u1.heap.size ∧ bk < u1.heap.size) → (u2.cell? ⟨w.heap.size, 3, none⟩ = some (.slice (some ⟨bk, 0, none⟩) 2 2) ∧ u2.rangeAt bk 0 ca.toList ∧ u2.rangeAt bk 4 cb.toList)) := Lib.hid fun u1 u2 h hb hl => ⟨(hb.cell (p := ⟨w.heap.size, 3, none⟩) hl.1).trans h.1, range_below h.2.1 hb hl.2, range_below h.2.2 hb hl.2⟩
  clear r1 r2 ta tb hbk
  have HIA := Lib.hid (fun w h => iha w ca h)
  have HIB := Lib.hid (fun w h => ihb w cb h)
  have HPB := Lib.hid (fun w h => rpairs_some b cb w h (by omega))
  have HMA := Lib.hid (show (a.rset k v).many + b.many ≤ 1099511627776 by have := rset_many k v a; omega)
  have HMB := Lib.hid (show a.many + (b.rset k v).many ≤ 1099511627776 by have := rset_many k v b; omega)
  obtain ⟨lv, lr, hlr⟩ := b.pairs_head
  obtain ⟨lk, hlk⟩ : ∃ l, l = b.least := ⟨_, rfl⟩
  rw [← hlk] at hlr
  obtain ⟨L, hL⟩ : ∃ L, L = b.pairs := ⟨_, rfl⟩
  rw [← hL] at HPB hlr
  have HLR := Lib.hid (show L[0]? = some (lk, lv) by rw [hlr]; rfl)
  have hL0 : 0 < L.length := by rw [hlr]; simp
  have hL1 : (0 : Int) < (L.length : Int) := by omega
  clear hlr hL iha ihb hm
  cases h2 : bl k b.least with
  | true =>
    have HF := Lib.hid (show some ((AvT.node a b).rset k v) = some (rightN (a.rset k v) b) by rw [AvT.rset, if_pos h2])
    obtain ⟨A, hA⟩ : ∃ A, A = a.rset k v := ⟨_, rfl⟩
    rw [← hA] at HIA HMA HF
    rw [← hlk] at h2
    have hl : Op.bytesLess k.toList lk.toList = true := h2
    clear h2 hlk hA HIB HMB
    unfold NewR PsPost rC eBA at *
    go_enter Tryd.func30, Tryd.ntmps30
    go_upto_region 1 with (fail)
    have e0 : (w.alloc (.cells #[.bool true, .string { data := #[] }, .string { data := #[] }, .slice (some ⟨bk, 0, none⟩) 2 2] 29)).alloc (.cells #[.bool false, .string { data := #[] }, .string { data := #[] }, .slice none 0 0] 29) = dmW w #[.bool true, .string { data := #[] }, .string { data := #[] }, .slice (some ⟨bk, 0, none⟩) 2 2] := rfl
    rw [e0]
    clear e0
    generalize dmW w #[.bool true, .string { data := #[] }, .string { data := #[] }, .slice (some ⟨bk, 0, none⟩) 2 2] = w1 at *
    obtain ⟨c0, -, -, c3⟩ := r_cells M.out.pa
    go_upto_region 9 with (fail)
    obtain ⟨-, -, r4⟩ := HSX.out
    go_upto_region 10 with (first
      | (refine wpList_load_mid rfl 29 (.tmp 41) rfl bk 4 rfl _ _ r4 Tryd.underlying29 rfl (by rw [Array.length_toList, HZB.out]; kernel_rfl) ?_; rw [Array.toArray_toList])
      | (go_at_call 44; (with_reducible refine (HPB.out _ HXY.out.2).mono ?_); rintro e w2 ⟨r, rfl, ho, hb⟩; have HKV := KVIn.of_own ho; obtain ⟨ra, rc, hra⟩ := HKV.len; subst hra; obtain ⟨rb, ro, hra, -, c5, -⟩ := HKV.at 0 _ HLR.out; subst hra; simp only [Nat.zero_mul, Nat.add_zero] at c5; replace HSX := Lib.hid (HKX.out _ _ HSX.out hb ⟨blk_lt M.out.pa, HBK.out⟩); replace HBK := Lib.hid (Nat.lt_of_lt_of_le HBK.out hb.size); replace HXY := Lib.hid (show _ ∧ _ from ⟨HXY.out.1.below hb, HXY.out.2.below hb⟩); replace M := Lib.hid (M.out.call hb); clear ho hb HKV c0 c3))
    clear r4
    refine wp_region_T (fun w' => w'.cell? ⟨w.heap.size, 3, none⟩ = some (.slice (some ⟨bk, 0, none⟩) 2 2) ∧ w'.rangeAt bk 0 ca.toList ∧ w'.rangeAt bk 4 cb.toList) [1, 2, 3, 6, 8, 9, 10] (by kernel_rfl) ?_
    have hb : Below w2.heap.size w2 w2.drew := (Below.refl _ w2).drew
    replace HSX := Lib.hid (HKX.out _ _ HSX.out hb ⟨blk_lt M.out.pa, HBK.out⟩)
    replace HBK := Lib.hid (Nat.lt_of_lt_of_le HBK.out hb.size)
    replace HXY := Lib.hid (show _ ∧ _ from ⟨HXY.out.1.below hb, HXY.out.2.below hb⟩)
    replace M := Lib.hid (M.out.call hb)
    clear hb
    generalize w2.drew = w5 at *
    refine anyT_takeY (i := 0) (v := .pointer (some ⟨w.heap.size, 3, none⟩)) rfl (by kernel_rfl) (by kernel_rfl) (by kernel_rfl) (fun _ _ _ h => h) (by kernel_rfl) (Or.inl ⟨by rfl, by intro w; go_simp⟩) ?_
    try simp only [List.getElem_toArray, List.getElem_cons_succ, List.getElem_cons_zero, Act.put, List.setIfInBounds_toArray, List.set_cons_zero, List.set_cons_succ]
    refine anyT_takeY (i := 7) (v := .pointer (some ⟨w.heap.size, 3, none⟩)) rfl (by kernel_rfl) (by kernel_rfl) (by kernel_rfl) (fun _ _ _ h => h) (by kernel_rfl) (Or.inl ⟨by rfl, by intro w; go_simp⟩) ?_
    try simp only [List.getElem_toArray, List.getElem_cons_succ, List.getElem_cons_zero, Act.put, List.setIfInBounds_toArray, List.set_cons_zero, List.set_cons_succ]
    refine anyT_takeY (i := 4) (v := .string k) rfl (by kernel_rfl) (by kernel_rfl) (by kernel_rfl) (fun _ _ _ h => h) (by kernel_rfl) (Or.inl ⟨by rfl, by intro w; go_simp⟩) ?_
    try simp only [List.getElem_toArray, List.getElem_cons_succ, List.getElem_cons_zero, Act.put, List.setIfInBounds_toArray, List.set_cons_zero, List.set_cons_succ]
    refine anyT_takeY (i := 5) (v := .string v) rfl (by kernel_rfl) (by kernel_rfl) (by kernel_rfl) (fun _ _ _ h => h) (by kernel_rfl) (Or.inl ⟨by rfl, by intro w; go_simp⟩) ?_
    try simp only [List.getElem_toArray, List.getElem_cons_succ, List.getElem_cons_zero, Act.put, List.setIfInBounds_toArray, List.set_cons_zero, List.set_cons_succ]
    refine anyT_take [2, 3, 6, 11, 12] (i := 1) (v := .slice (some ⟨bk, 0, none⟩) 2 2) rfl (by kernel_rfl) (by kernel_rfl) (by kernel_rfl) (fun _ _ _ h => h) (by kernel_rfl) (Or.inl ⟨by rfl, fun w' hS => by have c := hS.1; go_simp⟩) HSX.out ?_
    try simp only [List.getElem_toArray, List.getElem_cons_succ, List.getElem_cons_zero, Act.put, List.setIfInBounds_toArray, List.set_cons_zero, List.set_cons_succ]
    refine anyT_take [3, 6, 11, 12] (i := 2) (v := .pointer (some ⟨bk, 0, none⟩)) rfl (by kernel_rfl) (by kernel_rfl) (by kernel_rfl) (fun _ _ _ h => h) (by kernel_rfl) (Or.inl ⟨by rfl, fun w' _ => by go_simp⟩) HSX.out ?_
    try simp only [List.getElem_toArray, List.getElem_cons_succ, List.getElem_cons_zero, Act.put, List.setIfInBounds_toArray, List.set_cons_zero, List.set_cons_succ]
    refine anyT_take [6, 11, 12] (i := 3) (v := .agg ca) rfl (by kernel_rfl) (by kernel_rfl) (by kernel_rfl) (fun _ _ _ h => h) (by kernel_rfl) (agg_mid (by rfl) 29 (.tmp 50) rfl bk 0 rfl _ _ (fun _ h => h.2.1) Tryd.underlying29 rfl (by rw [HZA.out]; kernel_rfl)) HSX.out ?_
    try simp only [List.getElem_toArray, List.getElem_cons_succ, List.getElem_cons_zero, Act.put, List.setIfInBounds_toArray, List.set_cons_zero, List.set_cons_succ]
    refine anyT_take [9, 10, 11, 12] (i := 8) (v := .slice (some ⟨bk, 0, none⟩) 2 2) rfl (by kernel_rfl) (by kernel_rfl) (by kernel_rfl) (fun _ _ _ h => h) (by kernel_rfl) (Or.inl ⟨by rfl, fun w' hS => by have c := hS.1; go_simp⟩) HSX.out ?_
    try simp only [List.getElem_toArray, List.getElem_cons_succ, List.getElem_cons_zero, Act.put, List.setIfInBounds_toArray, List.set_cons_zero, List.set_cons_succ]
    refine anyT_take [10, 11, 12] (i := 9) (v := .pointer (some ⟨bk, 4, none⟩)) rfl (by kernel_rfl) (by kernel_rfl) (by kernel_rfl) (fun _ _ _ h => h) (by kernel_rfl) (Or.inl ⟨by rfl, fun w' _ => by go_simp⟩) HSX.out ?_
    try simp only [List.getElem_toArray, List.getElem_cons_succ, List.getElem_cons_zero, Act.put, List.setIfInBounds_toArray, List.set_cons_zero, List.set_cons_succ]
    refine anyT_take [11, 12] (i := 10) (v := .agg cb) rfl (by kernel_rfl) (by kernel_rfl) (by kernel_rfl) (fun _ _ _ h => h) (by kernel_rfl) (agg_mid (by rfl) 29 (.tmp 57) rfl bk 4 rfl _ _ (fun _ h => h.2.2) Tryd.underlying29 rfl (by rw [HZB.out]; kernel_rfl)) HSX.out ?_
    try simp only [List.getElem_toArray, List.getElem_cons_succ, List.getElem_cons_zero, Act.put, List.setIfInBounds_toArray, List.set_cons_zero, List.set_cons_succ]
    refine anyT_one (i := 6) (by kernel_rfl) rfl (fun K hK => ?_)
    rw [if_pos (by rfl)]
    try simp only [List.getElem_toArray, List.getElem_cons_succ, List.getElem_cons_zero]
    (go_simp; refine (HIA.out _ HXY.out.1).mono ?_; rintro e w6 ⟨u1, rfl, ht, hb⟩; have HRu1 := Lib.hid ht; have u1Z := Lib.hid (RO.size ht); have u1O := Lib.hid (RO.one ht); replace HSX := Lib.hid (HKX.out _ _ HSX.out hb ⟨blk_lt M.out.pa, HBK.out⟩); replace HBK := Lib.hid (Nat.lt_of_lt_of_le HBK.out hb.size); replace HXY := Lib.hid (show _ ∧ _ from ⟨HXY.out.1.below hb, HXY.out.2.below hb⟩); replace M := Lib.hid (M.out.call hb); clear ht hb)
    refine hK _ _ (fun _ => HSX.out) ?_
    clear hK K
    try simp only [List.getElem_toArray, List.getElem_cons_succ, List.getElem_cons_zero, Act.put, List.setIfInBounds_toArray, List.set_cons_zero, List.set_cons_succ]
    refine anyT_one (i := 11) (by kernel_rfl) rfl (fun K hK => ?_)
    rw [if_pos (by rfl)]
    try simp only [List.getElem_toArray, List.getElem_cons_succ, List.getElem_cons_zero]
    (go_simp; refine (rright_any _ _ A b _ HRu1.out HXY.out.2 HMA.out).mono ?_; rintro e w7 ⟨u2, rfl, ht, hb⟩; have HRu2 := Lib.hid ht; have u2Z := Lib.hid (RO.size ht); have u2O := Lib.hid (RO.one ht); replace HSX := Lib.hid (HKX.out _ _ HSX.out hb ⟨blk_lt M.out.pa, HBK.out⟩); replace HBK := Lib.hid (Nat.lt_of_lt_of_le HBK.out hb.size); replace HXY := Lib.hid (show _ ∧ _ from ⟨HXY.out.1.below hb, HXY.out.2.below hb⟩); replace M := Lib.hid (M.out.call hb); clear ht hb)
    refine hK _ _ (not_mem rfl) ?_
    clear hK K
    try simp only [List.getElem_toArray, List.getElem_cons_succ, List.getElem_cons_zero, Act.put, List.setIfInBounds_toArray, List.set_cons_zero, List.set_cons_succ]
    refine anyT_one (i := 12) (by kernel_rfl) rfl (fun K hK => ?_)
    rw [if_pos (by rfl)]
    try simp only [List.getElem_toArray, List.getElem_cons_succ, List.getElem_cons_zero]
    (refine wp_store_row 29 (.tmp 6) (.tmp 59) rfl (w.heap.size + 1) u2 rfl rfl 29 _ M.out.re (by rw [u2Z.out]; kernel_rfl) (by rw [u2Z.out]; rfl) u2O.out ?_)
    refine hK _ _ (not_mem rfl) ?_
    clear hK K
    try simp only [List.getElem_toArray, List.getElem_cons_succ, List.getElem_cons_zero, Act.put, List.setIfInBounds_toArray, List.set_cons_zero, List.set_cons_succ]
    refine anyT_done (by kernel_rfl) ?_ _
    go_wp2_with (fail)
    obtain ⟨e1, e2, e3⟩ := M.out.done HRu2.out
    refine bodyPost_ret (results_cell_row rfl _ _ (w.heap.size + 1) 29 u2 (0, 0) _ rfl e3 Tryd.underlying29 rfl (by rw [u2Z.out]; kernel_rfl)) rfl ?_
    rw [HF.out]
    exact ⟨_, rfl, e2, e1⟩
  | false =>
    have HF := Lib.hid (show some ((AvT.node a b).rset k v) = some (rightN a (b.rset k v)) by rw [AvT.rset, if_neg (by rw [h2]; simp)])
    obtain ⟨B, hB⟩ : ∃ B, B = b.rset k v := ⟨_, rfl⟩
    rw [← hB] at HIB HMB HF
    rw [← hlk] at h2
    have hl : Op.bytesLess k.toList lk.toList = false := h2
    clear h2 hlk hB HIA HMA
    unfold NewR PsPost rC eBA at *
    go_enter Tryd.func30, Tryd.ntmps30
    go_upto_region 1 with (fail)
    have e0 : (w.alloc (.cells #[.bool true, .string { data := #[] }, .string { data := #[] }, .slice (some ⟨bk, 0, none⟩) 2 2] 29)).alloc (.cells #[.bool false, .string { data := #[] }, .string { data := #[] }, .slice none 0 0] 29) = dmW w #[.bool true, .string { data := #[] }, .string { data := #[] }, .slice (some ⟨bk, 0, none⟩) 2 2] := rfl
    rw [e0]
    clear e0
    generalize dmW w #[.bool true, .string { data := #[] }, .string { data := #[] }, .slice (some ⟨bk, 0, none⟩) 2 2] = w1 at *
    obtain ⟨c0, -, -, c3⟩ := r_cells M.out.pa
    go_upto_region 9 with (fail)
    obtain ⟨-, -, r4⟩ := HSX.out
    go_upto_region 11 with (first
      | (refine wpList_load_mid rfl 29 (.tmp 41) rfl bk 4 rfl _ _ r4 Tryd.underlying29 rfl (by rw [Array.length_toList, HZB.out]; kernel_rfl) ?_; rw [Array.toArray_toList])
      | (go_at_call 44; (with_reducible refine (HPB.out _ HXY.out.2).mono ?_); rintro e w2 ⟨r, rfl, ho, hb⟩; have HKV := KVIn.of_own ho; obtain ⟨ra, rc, hra⟩ := HKV.len; subst hra; obtain ⟨rb, ro, hra, -, c5, -⟩ := HKV.at 0 _ HLR.out; subst hra; simp only [Nat.zero_mul, Nat.add_zero] at c5; replace HSX := Lib.hid (HKX.out _ _ HSX.out hb ⟨blk_lt M.out.pa, HBK.out⟩); replace HBK := Lib.hid (Nat.lt_of_lt_of_le HBK.out hb.size); replace HXY := Lib.hid (show _ ∧ _ from ⟨HXY.out.1.below hb, HXY.out.2.below hb⟩); replace M := Lib.hid (M.out.call hb); clear ho hb HKV c0 c3))
    clear r4
    refine wp_region_T (fun w' => w'.cell? ⟨w.heap.size, 3, none⟩ = some (.slice (some ⟨bk, 0, none⟩) 2 2) ∧ w'.rangeAt bk 0 ca.toList ∧ w'.rangeAt bk 4 cb.toList) [1, 2, 3, 5, 6, 7, 10] (by kernel_rfl) ?_
    have hb : Below w2.heap.size w2 w2.drew := (Below.refl _ w2).drew
    replace HSX := Lib.hid (HKX.out _ _ HSX.out hb ⟨blk_lt M.out.pa, HBK.out⟩)
    replace HBK := Lib.hid (Nat.lt_of_lt_of_le HBK.out hb.size)
    replace HXY := Lib.hid (show _ ∧ _ from ⟨HXY.out.1.below hb, HXY.out.2.below hb⟩)
    replace M := Lib.hid (M.out.call hb)
    clear hb
    generalize w2.drew = w5 at *
    refine anyT_takeY (i := 0) (v := .pointer (some ⟨w.heap.size, 3, none⟩)) rfl (by kernel_rfl) (by kernel_rfl) (by kernel_rfl) (fun _ _ _ h => h) (by kernel_rfl) (Or.inl ⟨by rfl, by intro w; go_simp⟩) ?_
    try simp only [List.getElem_toArray, List.getElem_cons_succ, List.getElem_cons_zero, Act.put, List.setIfInBounds_toArray, List.set_cons_zero, List.set_cons_succ]
    refine anyT_takeY (i := 4) (v := .pointer (some ⟨w.heap.size, 3, none⟩)) rfl (by kernel_rfl) (by kernel_rfl) (by kernel_rfl) (fun _ _ _ h => h) (by kernel_rfl) (Or.inl ⟨by rfl, by intro w; go_simp⟩) ?_
    try simp only [List.getElem_toArray, List.getElem_cons_succ, List.getElem_cons_zero, Act.put, List.setIfInBounds_toArray, List.set_cons_zero, List.set_cons_succ]
    refine anyT_takeY (i := 8) (v := .string k) rfl (by kernel_rfl) (by kernel_rfl) (by kernel_rfl) (fun _ _ _ h => h) (by kernel_rfl) (Or.inl ⟨by rfl, by intro w; go_simp⟩) ?_
    try simp only [List.getElem_toArray, List.getElem_cons_succ, List.getElem_cons_zero, Act.put, List.setIfInBounds_toArray, List.set_cons_zero, List.set_cons_succ]
    refine anyT_takeY (i := 9) (v := .string v) rfl (by kernel_rfl) (by kernel_rfl) (by kernel_rfl) (fun _ _ _ h => h) (by kernel_rfl) (Or.inl ⟨by rfl, by intro w; go_simp⟩) ?_
    try simp only [List.getElem_toArray, List.getElem_cons_succ, List.getElem_cons_zero, Act.put, List.setIfInBounds_toArray, List.set_cons_zero, List.set_cons_succ]
    refine anyT_take [2, 3, 11, 12] (i := 1) (v := .slice (some ⟨bk, 0, none⟩) 2 2) rfl (by kernel_rfl) (by kernel_rfl) (by kernel_rfl) (fun _ _ _ h => h) (by kernel_rfl) (Or.inl ⟨by rfl, fun w' hS => by have c := hS.1; go_simp⟩) HSX.out ?_
    try simp only [List.getElem_toArray, List.getElem_cons_succ, List.getElem_cons_zero, Act.put, List.setIfInBounds_toArray, List.set_cons_zero, List.set_cons_succ]
    refine anyT_take [3, 11, 12] (i := 2) (v := .pointer (some ⟨bk, 0, none⟩)) rfl (by kernel_rfl) (by kernel_rfl) (by kernel_rfl) (fun _ _ _ h => h) (by kernel_rfl) (Or.inl ⟨by rfl, fun w' _ => by go_simp⟩) HSX.out ?_
    try simp only [List.getElem_toArray, List.getElem_cons_succ, List.getElem_cons_zero, Act.put, List.setIfInBounds_toArray, List.set_cons_zero, List.set_cons_succ]
    refine anyT_take [11, 12] (i := 3) (v := .agg ca) rfl (by kernel_rfl) (by kernel_rfl) (by kernel_rfl) (fun _ _ _ h => h) (by kernel_rfl) (agg_mid (by rfl) 29 (.tmp 62) rfl bk 0 rfl _ _ (fun _ h => h.2.1) Tryd.underlying29 rfl (by rw [HZA.out]; kernel_rfl)) HSX.out ?_
    try simp only [List.getElem_toArray, List.getElem_cons_succ, List.getElem_cons_zero, Act.put, List.setIfInBounds_toArray, List.set_cons_zero, List.set_cons_succ]
    refine anyT_take [6, 7, 10, 11, 12] (i := 5) (v := .slice (some ⟨bk, 0, none⟩) 2 2) rfl (by kernel_rfl) (by kernel_rfl) (by kernel_rfl) (fun _ _ _ h => h) (by kernel_rfl) (Or.inl ⟨by rfl, fun w' hS => by have c := hS.1; go_simp⟩) HSX.out ?_
    try simp only [List.getElem_toArray, List.getElem_cons_succ, List.getElem_cons_zero, Act.put, List.setIfInBounds_toArray, List.set_cons_zero, List.set_cons_succ]
    refine anyT_take [7, 10, 11, 12] (i := 6) (v := .pointer (some ⟨bk, 4, none⟩)) rfl (by kernel_rfl) (by kernel_rfl) (by kernel_rfl) (fun _ _ _ h => h) (by kernel_rfl) (Or.inl ⟨by rfl, fun w' _ => by go_simp⟩) HSX.out ?_
    try simp only [List.getElem_toArray, List.getElem_cons_succ, List.getElem_cons_zero, Act.put, List.setIfInBounds_toArray, List.set_cons_zero, List.set_cons_succ]
    refine anyT_take [10, 11, 12] (i := 7) (v := .agg cb) rfl (by kernel_rfl) (by kernel_rfl) (by kernel_rfl) (fun _ _ _ h => h) (by kernel_rfl) (agg_mid (by rfl) 29 (.tmp 66) rfl bk 4 rfl _ _ (fun _ h => h.2.2) Tryd.underlying29 rfl (by rw [HZB.out]; kernel_rfl)) HSX.out ?_
    try simp only [List.getElem_toArray, List.getElem_cons_succ, List.getElem_cons_zero, Act.put, List.setIfInBounds_toArray, List.set_cons_zero, List.set_cons_succ]
    refine anyT_one (i := 10) (by kernel_rfl) rfl (fun K hK => ?_)
    rw [if_pos (by rfl)]
    try simp only [List.getElem_toArray, List.getElem_cons_succ, List.getElem_cons_zero]
    (go_simp; refine (HIB.out _ HXY.out.2).mono ?_; rintro e w6 ⟨u1, rfl, ht, hb⟩; have HRu1 := Lib.hid ht; have u1Z := Lib.hid (RO.size ht); have u1O := Lib.hid (RO.one ht); replace HSX := Lib.hid (HKX.out _ _ HSX.out hb ⟨blk_lt M.out.pa, HBK.out⟩); replace HBK := Lib.hid (Nat.lt_of_lt_of_le HBK.out hb.size); replace HXY := Lib.hid (show _ ∧ _ from ⟨HXY.out.1.below hb, HXY.out.2.below hb⟩); replace M := Lib.hid (M.out.call hb); clear ht hb)
    refine hK _ _ (fun _ => HSX.out) ?_
    clear hK K
    try simp only [List.getElem_toArray, List.getElem_cons_succ, List.getElem_cons_zero, Act.put, List.setIfInBounds_toArray, List.set_cons_zero, List.set_cons_succ]
    refine anyT_one (i := 11) (by kernel_rfl) rfl (fun K hK => ?_)
    rw [if_pos (by rfl)]
    try simp only [List.getElem_toArray, List.getElem_cons_succ, List.getElem_cons_zero]
    (go_simp; refine (rright_any _ _ a B _ HXY.out.1 HRu1.out HMB.out).mono ?_; rintro e w7 ⟨u2, rfl, ht, hb⟩; have HRu2 := Lib.hid ht; have u2Z := Lib.hid (RO.size ht); have u2O := Lib.hid (RO.one ht); replace HSX := Lib.hid (HKX.out _ _ HSX.out hb ⟨blk_lt M.out.pa, HBK.out⟩); replace HBK := Lib.hid (Nat.lt_of_lt_of_le HBK.out hb.size); replace HXY := Lib.hid (show _ ∧ _ from ⟨HXY.out.1.below hb, HXY.out.2.below hb⟩); replace M := Lib.hid (M.out.call hb); clear ht hb)
    refine hK _ _ (not_mem rfl) ?_
    clear hK K
    try simp only [List.getElem_toArray, List.getElem_cons_succ, List.getElem_cons_zero, Act.put, List.setIfInBounds_toArray, List.set_cons_zero, List.set_cons_succ]
    refine anyT_one (i := 12) (by kernel_rfl) rfl (fun K hK => ?_)
    rw [if_pos (by rfl)]
    try simp only [List.getElem_toArray, List.getElem_cons_succ, List.getElem_cons_zero]
    (refine wp_store_row 29 (.tmp 6) (.tmp 71) rfl (w.heap.size + 1) u2 rfl rfl 29 _ M.out.re (by rw [u2Z.out]; kernel_rfl) (by rw [u2Z.out]; rfl) u2O.out ?_)
    refine hK _ _ (not_mem rfl) ?_
    clear hK K
    try simp only [List.getElem_toArray, List.getElem_cons_succ, List.getElem_cons_zero, Act.put, List.setIfInBounds_toArray, List.set_cons_zero, List.set_cons_succ]
    refine anyT_done (by kernel_rfl) ?_ _
    go_wp2_with (fail)
    obtain ⟨e1, e2, e3⟩ := M.out.done HRu2.out
    refine bodyPost_ret (results_cell_row rfl _ _ (w.heap.size + 1) 29 u2 (0, 0) _ rfl e3 Tryd.underlying29 rfl (by rw [u2Z.out]; kernel_rfl)) rfl ?_
    rw [HF.out]
    exact ⟨_, rfl, e2, e1⟩
theorem rset_some (k v : ByteArray) : ∀ (t : AvT) (w : World) (cs : Array Value), t.many + 1 ≤ 1099511627776 → RT w cs t → Calls Tryd.prog 30 #[.agg cs, .string k, .string v] w (NewR (some (t.rset k v)) w)
  | .leaf k0 v0, w, cs, _, h => by obtain rfl := h; exact rset_leaf k0 v0 k v w
  | .node a b, w, cs, hm, h => by
    simp only [AvT.many] at hm
    exact rset_node a b k v cs w h hm (fun w cs h => rset_some k v a w cs (by omega) h) (fun w cs h => rset_some k v b w cs (by omega) h)
def rsetO (t : Option AvT) (k v : ByteArray) : AvT := match t with
  | none => .leaf k v
  | some t => t.rset k v
theorem rset_any (t : Option AvT) (cs : Array Value) (k v : ByteArray) (w : World) (h : RO w cs t) (hm : manyO t + 1 ≤ 1099511627776) : Calls Tryd.prog 30 #[.agg cs, .string k, .string v] w (NewR (some (rsetO t k v)) w) := by
  cases t with
  | none => cases h; exact rset_none k v w
  | some t => exact rset_some k v t w cs hm h
/-- both parts behind Drop, in blocks of their own -/
structure DrX (w w' : World) (cs : Array Value) (t a b : Option AvT) (g7 g8 : Nat) (ra rb : Array Value) : Prop where
  m : DM w w' cs t
  h7 : w'.heap[g7]? = some (.cells ra 29 (0, 0))
  h8 : w'.heap[g8]? = some (.cells rb 29 (0, 0))
  ta : RO w' ra a
  tb : RO w' rb b
theorem RO.block {w : World} {t : Option AvT} {cs : Array Value} (h : RO w cs t) : ∃ x1 x2 x3, cs = #[.bool t.isSome, x1, x2, x3] := by
  cases t with
  | none => exact ⟨_, _, _, h⟩
  | some t => obtain ⟨k, v, a, n, c, e⟩ := RT.form h; exact ⟨_, _, _, e⟩
theorem rdrop_none (k : ByteArray) (w : World) : Calls Tryd.prog 29 #[.agg (rC false eBA eBA (.slice none 0 0)), .string k] w (NewR none w) := by
  have M := Lib.hid (dm_start (w := w) (cs := rC false eBA eBA (.slice none 0 0)) (t := none) rfl)
  have HG := Lib.hid (fun w h => rget_any none (rC false eBA eBA (.slice none 0 0)) k w h (by simp [manyO]))
  rw [show getL (pairsO none) k = none from rfl] at HG
  unfold rC eBA at *
  unfold NewR
  go_enter Tryd.func29, Tryd.ntmps29
  go_upto_region 1 with (fail)
  have e0 : (w.alloc (.cells #[.bool false, .string { data := #[] }, .string { data := #[] }, .slice none 0 0] 29)).alloc (.cells #[.bool false, .string { data := #[] }, .string { data := #[] }, .slice none 0 0] 29) = dmW w #[.bool false, .string { data := #[] }, .string { data := #[] }, .slice none 0 0] := rfl
  rw [e0]
  clear e0
  generalize dmW w #[.bool false, .string { data := #[] }, .string { data := #[] }, .slice none 0 0] = w1 at *
  go_wp2_with (first
    | (refine wpList_load_row rfl 29 (.tmp 2) rfl w.heap.size rfl 29 _ (0, 0) _ M.out.pa Tryd.underlying29 rfl (by kernel_rfl) ?_)
    | (go_at_call 54; (with_reducible refine (HG.out _ M.out.t).mono ?_); rintro e w3 ⟨rfl, hb⟩; replace M := Lib.hid (M.out.call hb); clear hb)
    | (refine wpList_store_row rfl 29 (.tmp 4) (.tmp 17) rfl (w.heap.size + 1) #[.bool false, .string { data := #[] }, .string { data := #[] }, .slice none 0 0] rfl rfl 29 _ M.out.re (by kernel_rfl) (by rfl) (by simp [Value.oneCell']) ?_))
  obtain ⟨e1, e2, e3⟩ := M.out.done M.out.t
  refine bodyPost_ret (results_cell_row rfl _ _ (w.heap.size + 1) 29 #[.bool false, .string { data := #[] }, .string { data := #[] }, .slice none 0 0] (0, 0) _ rfl e3 Tryd.underlying29 rfl (by kernel_rfl)) rfl ?_
  exact ⟨_, rfl, e2, e1⟩
/-- the key is not there -/
theorem rdrop_not (t : AvT) (k : ByteArray) (cs : Array Value) (w : World) (hcs : RT w cs t) (hm : t.many ≤ 1099511627776) (hn : getL t.pairs k = none) : Calls Tryd.prog 29 #[.agg cs, .string k] w (NewR (some t) w) := by
  have M := Lib.hid (dm_start (w := w) (cs := cs) (t := some t) hcs)
  have HG := Lib.hid (fun w h => rget_any (some t) cs k w h hm)
  rw [show getL (pairsO (some t)) k = none from hn] at HG
  have csZ := Lib.hid hcs.size
  have csO := Lib.hid (RO.one (t := some t) hcs)
  clear hcs hm hn
  unfold NewR
  go_enter Tryd.func29, Tryd.ntmps29
  go_upto_region 1 with (fail)
  have e0 : (w.alloc (.cells cs 29)).alloc (.cells #[.bool false, .string { data := #[] }, .string { data := #[] }, .slice none 0 0] 29) = dmW w cs := rfl
  rw [e0]
  clear e0
  generalize dmW w cs = w1 at *
  go_wp2_with (first
    | (refine wpList_load_row rfl 29 (.tmp 2) rfl w.heap.size rfl 29 _ (0, 0) _ M.out.pa Tryd.underlying29 rfl (by rw [csZ.out]; kernel_rfl) ?_)
    | (go_at_call 54; (with_reducible refine (HG.out _ M.out.t).mono ?_); rintro e w3 ⟨rfl, hb⟩; replace M := Lib.hid (M.out.call hb); clear hb)
    | (refine wpList_store_row rfl 29 (.tmp 4) (.tmp 17) rfl (w.heap.size + 1) cs rfl rfl 29 _ M.out.re (by rw [csZ.out]; kernel_rfl) (by rw [csZ.out]; rfl) csO.out ?_))
  obtain ⟨e1, e2, e3⟩ := M.out.done M.out.t
  refine bodyPost_ret (results_cell_row rfl _ _ (w.heap.size + 1) 29 cs (0, 0) _ rfl e3 Tryd.underlying29 rfl (by rw [csZ.out]; kernel_rfl)) rfl ?_
  exact ⟨_, rfl, e2, e1⟩
theorem rdrop_leaf (k0 v0 k : ByteArray) (w : World) (hn : (getL [(k0, v0)] k).isSome = true) : Calls Tryd.prog 29 #[.agg (rC true k0 v0 (.slice none 0 0)), .string k] w (NewR none w) := by
  have M := Lib.hid (dm_start (w := w) (cs := rC true k0 v0 (.slice none 0 0)) (t := some (.leaf k0 v0)) rfl)
  have HG := Lib.hid (fun w h => rget_any (some (.leaf k0 v0)) (rC true k0 v0 (.slice none 0 0)) k w h (by simp [manyO, AvT.many]))
  rw [show getL (pairsO (some (.leaf k0 v0))) k = getL [(k0, v0)] k from rfl, hn] at HG
  obtain ⟨S0, hS0⟩ : ∃ S, S = strO2 (getL [(k0, v0)] k) := ⟨_, rfl⟩
  rw [← hS0] at HG
  clear hS0 hn
  unfold rC at *
  unfold NewR
  go_enter Tryd.func29, Tryd.ntmps29
  go_upto_region 1 with (fail)
  have e0 : (w.alloc (.cells #[.bool true, .string k0, .string v0, .slice none 0 0] 29)).alloc (.cells #[.bool false, .string { data := #[] }, .string { data := #[] }, .slice none 0 0] 29) = dmW w #[.bool true, .string k0, .string v0, .slice none 0 0] := rfl
  rw [e0]
  clear e0
  generalize dmW w #[.bool true, .string k0, .string v0, .slice none 0 0] = w1 at *
  go_upto_region 4 with (first
    | (refine wpList_load_row rfl 29 (.tmp 2) rfl w.heap.size rfl 29 _ (0, 0) _ M.out.pa Tryd.underlying29 rfl (by kernel_rfl) ?_)
    | (go_at_call 54; (with_reducible refine (HG.out _ M.out.t).mono ?_); rintro e w3 ⟨rfl, hb⟩; replace M := Lib.hid (M.out.call hb); clear hb))
  obtain ⟨c0, -, -, c3⟩ := r_cells M.out.pa
  go_wp2_with (refine wpList_store_row rfl 29 (.tmp 4) (.tmp 22) rfl (w.heap.size + 1) (rC false eBA eBA (.slice none 0 0)) rfl rfl 29 _ M.out.re (by kernel_rfl) (by rfl) (by simp [rC, Value.oneCell']) ?_)
  obtain ⟨e1, e2, e3⟩ := M.out.done (t := none) (cs := rC false eBA eBA (.slice none 0 0)) rfl
  refine bodyPost_ret (results_cell_row rfl _ _ (w.heap.size + 1) 29 (rC false eBA eBA (.slice none 0 0)) (0, 0) _ rfl e3 Tryd.underlying29 rfl (by kernel_rfl)) rfl ?_
  exact ⟨_, rfl, e2, e1⟩
set_option maxHeartbeats 8000000 in
set_option maxRecDepth 1000000 in
theorem rdrop_node (a b : AvT) (k : ByteArray) (cs : Array Value) (w : World) (hcs : RT w cs (.node a b)) (hm : a.many + b.many ≤ 1099511627776) (hn : (getL (a.pairs ++ b.pairs) k).isSome = true)
    (iha : ∀ (w : World) (cs : Array Value), RT w cs a → Calls Tryd.prog 29 #[.agg cs, .string k] w (NewR (a.rdrop k) w))
    (ihb : ∀ (w : World) (cs : Array Value), RT w cs b → Calls Tryd.prog 29 #[.agg cs, .string k] w (NewR (b.rdrop k) w)) :
    Calls Tryd.prog 29 #[.agg cs, .string k] w (NewR (joinR (a.rdrop k) (b.rdrop k)) w) := by
  obtain ⟨bk, ca, cb, rfl, hbk, r1, r2, ta, tb⟩ := hcs
  have M := Lib.hid (dm_start (w := w) (t := some (.node a b)) (show RT w _ (.node a b) from ⟨bk, ca, cb, rfl, hbk, r1, r2, ta, tb⟩))
  have HZA := Lib.hid ta.size
  have HZB := Lib.hid tb.size
  have HBK := Lib.hid (show bk < Array.size (World.heap _) from Nat.lt_of_lt_of_le hbk M.out.below.size)
  have HXY := Lib.hid (show RT _ ca a ∧ RT _ cb b from ⟨ta.below M.out.below, tb.below M.out.below⟩)
  have HSX := Lib.hid (show World.cell? _ ⟨w.heap.size, 3, none⟩ = some (.slice (some ⟨bk, 0, none⟩) 2 2) ∧ World.rangeAt _ bk 0 ca.toList ∧ World.rangeAt _ bk 4 cb.toList from ⟨(r_cells M.out.pa).2.2.2, range_below r1 M.out.below hbk, range_below r2 M.out.below hbk⟩)
  have HKX : Hid (∀ u1 u2 : World, (u1.cell? ⟨w.heap.size, 3, none⟩ = some (.slice (some ⟨bk, 0, none⟩) 2 2) ∧ u1.rangeAt bk 0 ca.toList ∧ u1.rangeAt bk 4 cb.toList) → Below u1.heap.size u1 u2 → (w.heap.size < u1.heap.size ∧ bk < u1.heap.size) → (u2.cell? ⟨w.heap.size, 3, none⟩ = some (.slice (some ⟨bk, 0, none⟩) 2 2) ∧ u2.rangeAt bk 0 ca.toList ∧ u2.rangeAt bk 4 cb.toList)) := Lib.hid fun u1 u2 h hb hl => ⟨(hb.cell (p := ⟨w.heap.size, 3, none⟩) hl.1).trans h.1, range_below h.2.1 hb hl.2, range_below h.2.2 hb hl.2⟩
  clear r1 r2 ta tb hbk
  have HIA := Lib.hid (fun w h => iha w ca h)
  have HIB := Lib.hid (fun w h => ihb w cb h)
  have HG := Lib.hid (fun w h => rget_any (some (.node a b)) (rC true eBA eBA (.slice (some ⟨bk, 0, none⟩) 2 2)) k w h hm)
  rw [show getL (pairsO (some (.node a b))) k = getL (a.pairs ++ b.pairs) k from rfl, hn] at HG
  obtain ⟨S0, hS0⟩ : ∃ S, S = strO2 (getL (a.pairs ++ b.pairs) k) := ⟨_, rfl⟩
  rw [← hS0] at HG
  have HMM := Lib.hid (show manyO (a.rdrop k) + manyO (b.rdrop k) ≤ 1099511627776 by have := rdrop_many k a; have := rdrop_many k b; omega)
  obtain ⟨A, hA⟩ : ∃ A, A = a.rdrop k := ⟨_, rfl⟩
  obtain ⟨B, hB⟩ : ∃ B, B = b.rdrop k := ⟨_, rfl⟩
  rw [← hA, ← hB] at HMM ⊢
  rw [← hA] at HIA
  rw [← hB] at HIB
  clear hS0 hn hA hB iha ihb hm
  unfold NewR rC eBA at *
  go_enter Tryd.func29, Tryd.ntmps29
  go_upto_region 1 with (fail)
  have e0 : (w.alloc (.cells #[.bool true, .string { data := #[] }, .string { data := #[] }, .slice (some ⟨bk, 0, none⟩) 2 2] 29)).alloc (.cells #[.bool false, .string { data := #[] }, .string { data := #[] }, .slice none 0 0] 29) = dmW w #[.bool true, .string { data := #[] }, .string { data := #[] }, .slice (some ⟨bk, 0, none⟩) 2 2] := rfl
  rw [e0]
  clear e0
  generalize dmW w #[.bool true, .string { data := #[] }, .string { data := #[] }, .slice (some ⟨bk, 0, none⟩) 2 2] = w1 at *
  go_upto_region 4 with (first
    | (refine wpList_load_row rfl 29 (.tmp 2) rfl w.heap.size rfl 29 _ (0, 0) _ M.out.pa Tryd.underlying29 rfl (by kernel_rfl) ?_)
    | (go_at_call 54; (with_reducible refine (HG.out _ M.out.t).mono ?_); rintro e w2 ⟨rfl, hb⟩; replace HSX := Lib.hid (HKX.out _ _ HSX.out hb ⟨blk_lt M.out.pa, HBK.out⟩); replace HBK := Lib.hid (Nat.lt_of_lt_of_le HBK.out hb.size); replace HXY := Lib.hid (show _ ∧ _ from ⟨HXY.out.1.below hb, HXY.out.2.below hb⟩); replace M := Lib.hid (M.out.call hb); clear hb))
  obtain ⟨c0, -, -, c3⟩ := r_cells M.out.pa
  go_upto_region 6 with (fail)
  clear c0 c3 HG
  go_cut [7, 8] (fun p7 p8 wx => ∃ g7 g8 ra rb, p7 = .pointer (some ⟨g7, 0, none⟩) ∧ p8 = .pointer (some ⟨g8, 0, none⟩) ∧ Hid (DrX w wx #[.bool true, .string { data := #[] }, .string { data := #[] }, .slice (some ⟨bk, 0, none⟩) 2 2] (some (.node a b)) A B g7 g8 ra rb))
  case first =>
    refine wp_region_T (fun w' => w'.cell? ⟨w.heap.size, 3, none⟩ = some (.slice (some ⟨bk, 0, none⟩) 2 2) ∧ w'.rangeAt bk 0 ca.toList ∧ w'.rangeAt bk 4 cb.toList) [1, 2, 3, 7, 8, 9, 5, 11, 12, 13] (by kernel_rfl) ?_
    have hb : Below w2.heap.size w2 w2.drew := (Below.refl _ w2).drew
    replace HSX := Lib.hid (HKX.out _ _ HSX.out hb ⟨blk_lt M.out.pa, HBK.out⟩)
    replace HBK := Lib.hid (Nat.lt_of_lt_of_le HBK.out hb.size)
    replace HXY := Lib.hid (show _ ∧ _ from ⟨HXY.out.1.below hb, HXY.out.2.below hb⟩)
    replace M := Lib.hid (M.out.call hb)
    clear hb
    generalize w2.drew = w5 at *
    refine anyT_takeY (i := 0) (v := .pointer (some ⟨w.heap.size, 3, none⟩)) rfl (by kernel_rfl) (by kernel_rfl) (by kernel_rfl) (fun _ _ _ h => h) (by kernel_rfl) (Or.inl ⟨by rfl, by intro w; go_simp⟩) ?_
    try simp only [List.getElem_toArray, List.getElem_cons_succ, List.getElem_cons_zero, Act.put, List.setIfInBounds_toArray, List.set_cons_zero, List.set_cons_succ]
    refine anyT_takeY (i := 6) (v := .pointer (some ⟨w.heap.size, 3, none⟩)) rfl (by kernel_rfl) (by kernel_rfl) (by kernel_rfl) (fun _ _ _ h => h) (by kernel_rfl) (Or.inl ⟨by rfl, by intro w; go_simp⟩) ?_
    try simp only [List.getElem_toArray, List.getElem_cons_succ, List.getElem_cons_zero, Act.put, List.setIfInBounds_toArray, List.set_cons_zero, List.set_cons_succ]
    refine anyT_takeY (i := 4) (v := .string k) rfl (by kernel_rfl) (by kernel_rfl) (by kernel_rfl) (fun _ _ _ h => h) (by kernel_rfl) (Or.inl ⟨by rfl, by intro w; go_simp⟩) ?_
    try simp only [List.getElem_toArray, List.getElem_cons_succ, List.getElem_cons_zero, Act.put, List.setIfInBounds_toArray, List.set_cons_zero, List.set_cons_succ]
    refine anyT_takeY (i := 10) (v := .string k) rfl (by kernel_rfl) (by kernel_rfl) (by kernel_rfl) (fun _ _ _ h => h) (by kernel_rfl) (Or.inl ⟨by rfl, by intro w; go_simp⟩) ?_
    try simp only [List.getElem_toArray, List.getElem_cons_succ, List.getElem_cons_zero, Act.put, List.setIfInBounds_toArray, List.set_cons_zero, List.set_cons_succ]
    refine anyT_take [2, 3, 5, 11, 14, 15] (i := 1) (v := .slice (some ⟨bk, 0, none⟩) 2 2) rfl (by kernel_rfl) (by kernel_rfl) (by kernel_rfl) (fun _ _ _ h => h) (by kernel_rfl) (Or.inl ⟨by rfl, fun w' hS => by have c := hS.1; go_simp⟩) HSX.out ?_
    try simp only [List.getElem_toArray, List.getElem_cons_succ, List.getElem_cons_zero, Act.put, List.setIfInBounds_toArray, List.set_cons_zero, List.set_cons_succ]
    refine anyT_take [3, 5, 11, 14, 15] (i := 2) (v := .pointer (some ⟨bk, 0, none⟩)) rfl (by kernel_rfl) (by kernel_rfl) (by kernel_rfl) (fun _ _ _ h => h) (by kernel_rfl) (Or.inl ⟨by rfl, fun w' _ => by go_simp⟩) HSX.out ?_
    try simp only [List.getElem_toArray, List.getElem_cons_succ, List.getElem_cons_zero, Act.put, List.setIfInBounds_toArray, List.set_cons_zero, List.set_cons_succ]
    refine anyT_take [5, 11, 14, 15] (i := 3) (v := .agg ca) rfl (by kernel_rfl) (by kernel_rfl) (by kernel_rfl) (fun _ _ _ h => h) (by kernel_rfl) (agg_mid (by rfl) 29 (.tmp 25) rfl bk 0 rfl _ _ (fun _ h => h.2.1) Tryd.underlying29 rfl (by rw [HZA.out]; kernel_rfl)) HSX.out ?_
    try simp only [List.getElem_toArray, List.getElem_cons_succ, List.getElem_cons_zero, Act.put, List.setIfInBounds_toArray, List.set_cons_zero, List.set_cons_succ]
    refine anyT_take [8, 9, 11, 14, 15] (i := 7) (v := .slice (some ⟨bk, 0, none⟩) 2 2) rfl (by kernel_rfl) (by kernel_rfl) (by kernel_rfl) (fun _ _ _ h => h) (by kernel_rfl) (Or.inl ⟨by rfl, fun w' hS => by have c := hS.1; go_simp⟩) HSX.out ?_
    try simp only [List.getElem_toArray, List.getElem_cons_succ, List.getElem_cons_zero, Act.put, List.setIfInBounds_toArray, List.set_cons_zero, List.set_cons_succ]
    refine anyT_take [9, 11, 14, 15] (i := 8) (v := .pointer (some ⟨bk, 4, none⟩)) rfl (by kernel_rfl) (by kernel_rfl) (by kernel_rfl) (fun _ _ _ h => h) (by kernel_rfl) (Or.inl ⟨by rfl, fun w' _ => by go_simp⟩) HSX.out ?_
    try simp only [List.getElem_toArray, List.getElem_cons_succ, List.getElem_cons_zero, Act.put, List.setIfInBounds_toArray, List.set_cons_zero, List.set_cons_succ]
    refine anyT_take [11, 14, 15] (i := 9) (v := .agg cb) rfl (by kernel_rfl) (by kernel_rfl) (by kernel_rfl) (fun _ _ _ h => h) (by kernel_rfl) (agg_mid (by rfl) 29 (.tmp 31) rfl bk 4 rfl _ _ (fun _ h => h.2.2) Tryd.underlying29 rfl (by rw [HZB.out]; kernel_rfl)) HSX.out ?_
    try simp only [List.getElem_toArray, List.getElem_cons_succ, List.getElem_cons_zero, Act.put, List.setIfInBounds_toArray, List.set_cons_zero, List.set_cons_succ]
    refine anyT_ready (rs := [5, 12, 13]) (by kernel_rfl) (by simp) ?_
    refine readyT_cons rfl (fun K hK => ?_) (readyT_cons rfl (fun K hK => ?_) (readyT_cons rfl (fun K hK => ?_) readyT_nil))
    · rw [if_pos (by rfl)]
      try simp only [List.getElem_toArray, List.getElem_cons_succ, List.getElem_cons_zero]
      (go_simp; refine (HIA.out _ HXY.out.1).mono ?_; rintro e x1 ⟨ra, rfl, ht, hb⟩; replace HSX := Lib.hid (HKX.out _ _ HSX.out hb ⟨blk_lt M.out.pa, HBK.out⟩); replace HBK := Lib.hid (Nat.lt_of_lt_of_le HBK.out hb.size); replace HXY := Lib.hid (show _ ∧ _ from ⟨HXY.out.1.below hb, HXY.out.2.below hb⟩); replace M := Lib.hid (M.out.call hb); have RA := Lib.hid ht; clear ht hb)
      refine hK _ _ (fun _ => HSX.out) ?_
      clear hK K
      try simp only [List.getElem_toArray, List.getElem_cons_succ, List.getElem_cons_zero, Act.put, List.setIfInBounds_toArray, List.set_cons_zero, List.set_cons_succ]
      refine anyT_ready (rs := [11, 12, 13]) (by kernel_rfl) (by simp) ?_
      refine readyT_cons rfl (fun K hK => ?_) (readyT_cons rfl (fun K hK => ?_) (readyT_cons rfl (fun K hK => ?_) readyT_nil))
      · rw [if_pos (by rfl)]
        try simp only [List.getElem_toArray, List.getElem_cons_succ, List.getElem_cons_zero]
        (go_simp; refine (HIB.out _ HXY.out.2).mono ?_; rintro e x2 ⟨rb, rfl, ht, hb⟩; replace HSX := Lib.hid (HKX.out _ _ HSX.out hb ⟨blk_lt M.out.pa, HBK.out⟩); replace HBK := Lib.hid (Nat.lt_of_lt_of_le HBK.out hb.size); replace HXY := Lib.hid (show _ ∧ _ from ⟨HXY.out.1.below hb, HXY.out.2.below hb⟩); replace M := Lib.hid (M.out.call hb); replace RA := Lib.hid (RA.out.below hb); have RB := Lib.hid ht; clear ht hb)
        refine hK _ _ (fun _ => HSX.out) ?_
        clear hK K
        try simp only [List.getElem_toArray, List.getElem_cons_succ, List.getElem_cons_zero, Act.put, List.setIfInBounds_toArray, List.set_cons_zero, List.set_cons_succ]
        refine anyT_ready (rs := [12, 13]) (by kernel_rfl) (by simp) ?_
        refine readyT_cons rfl (fun K hK => ?_) (readyT_cons rfl (fun K hK => ?_) readyT_nil)
        · rw [if_pos (by rfl)]
          try simp only [List.getElem_toArray, List.getElem_cons_succ, List.getElem_cons_zero]
          (go_simp)
          refine hK _ _ (fun _ => HKX.out x2 _ HSX.out (below_alloc x2 _) ⟨blk_lt M.out.pa, HBK.out⟩) ?_
          clear hK K
          try simp only [List.getElem_toArray, List.getElem_cons_succ, List.getElem_cons_zero, Act.put, List.setIfInBounds_toArray, List.set_cons_zero, List.set_cons_succ]
          obtain ⟨x3, hw⟩ : ∃ x, x = x2.alloc (.cells zR 29) := ⟨_, rfl⟩
          rw [show x2.alloc (.cells #[.bool false, .string { data := #[] }, .string { data := #[] }, .slice none 0 0] 29) = x3 from hw.symm]
          have hb : Below x2.heap.size x2 x3 := by rw [hw]; exact below_alloc _ _
          have H7 := Lib.hid (show x3.heap[x2.heap.size]? = some (.cells zR 29 (0, 0)) by rw [hw]; exact heap_alloc_new _ _)
          have HGT7 := Lib.hid (show w.heap.size + 1 < x2.heap.size from blk_lt M.out.re)
          replace HSX := Lib.hid (HKX.out _ _ HSX.out hb ⟨blk_lt M.out.pa, HBK.out⟩)
          replace HBK := Lib.hid (Nat.lt_of_lt_of_le HBK.out hb.size)
          replace HXY := Lib.hid (show _ ∧ _ from ⟨HXY.out.1.below hb, HXY.out.2.below hb⟩)
          replace M := Lib.hid (M.out.call hb)
          replace RA := Lib.hid (RA.out.below hb)
          replace RB := Lib.hid (RB.out.below hb)
          obtain ⟨g7, hg⟩ : ∃ g, g = x2.heap.size := ⟨_, rfl⟩
          rw [← hg] at H7 HGT7 ⊢
          clear hg hw hb
          refine anyT_one (i := 13) (by kernel_rfl) rfl (fun K hK => ?_)
          rw [if_pos (by rfl)]
          try simp only [List.getElem_toArray, List.getElem_cons_succ, List.getElem_cons_zero]
          (go_simp)
          refine hK _ _ (fun _ => HKX.out x3 _ HSX.out (below_alloc x3 _) ⟨blk_lt M.out.pa, HBK.out⟩) ?_
          clear hK K
          try simp only [List.getElem_toArray, List.getElem_cons_succ, List.getElem_cons_zero, Act.put, List.setIfInBounds_toArray, List.set_cons_zero, List.set_cons_succ]
          obtain ⟨x4, hw⟩ : ∃ x, x = x3.alloc (.cells zR 29) := ⟨_, rfl⟩
          rw [show x3.alloc (.cells #[.bool false, .string { data := #[] }, .string { data := #[] }, .slice none 0 0] 29) = x4 from hw.symm]
          have hb : Below x3.heap.size x3 x4 := by rw [hw]; exact below_alloc _ _
          have H8 := Lib.hid (show x4.heap[x3.heap.size]? = some (.cells zR 29 (0, 0)) by rw [hw]; exact heap_alloc_new _ _)
          have HGT8 := Lib.hid (show w.heap.size + 1 < x3.heap.size from blk_lt M.out.re)
          have HNE := Lib.hid (show g7 ≠ x3.heap.size from Nat.ne_of_lt (blk_lt H7.out))
          replace HSX := Lib.hid (HKX.out _ _ HSX.out hb ⟨blk_lt M.out.pa, HBK.out⟩)
          replace HBK := Lib.hid (Nat.lt_of_lt_of_le HBK.out hb.size)
          replace HXY := Lib.hid (show _ ∧ _ from ⟨HXY.out.1.below hb, HXY.out.2.below hb⟩)
          replace M := Lib.hid (M.out.call hb)
          replace RA := Lib.hid (RA.out.below hb)
          replace RB := Lib.hid (RB.out.below hb)
          replace H7 := Lib.hid ((hb.block _ (blk_lt H7.out)).trans H7.out)
          obtain ⟨g8, hg⟩ : ∃ g, g = x3.heap.size := ⟨_, rfl⟩
          rw [← hg] at H8 HGT8 HNE ⊢
          clear hg hw hb
          have ZA := Lib.hid RA.out.size
          have ZB := Lib.hid RB.out.size
          have OA := Lib.hid RA.out.one
          have OB := Lib.hid RB.out.one
          have H8' := Lib.hid ((setRow_other x4 g7 g8 ra (Ne.symm HNE.out)).trans H8.out)
          refine anyT_one (i := 14) (by kernel_rfl) rfl (fun K hK => ?_)
          rw [if_pos (by rfl)]
          try simp only [List.getElem_toArray, List.getElem_cons_succ, List.getElem_cons_zero]
          (refine wp_store_row 29 (.tmp 7) (.tmp 28) rfl g7 ra rfl rfl 29 _ H7.out (by rw [ZA.out]; kernel_rfl) (by rw [ZA.out]; rfl) OA.out ?_)
          refine hK _ _ (not_mem rfl) ?_
          clear hK K
          try simp only [List.getElem_toArray, List.getElem_cons_succ, List.getElem_cons_zero, Act.put, List.setIfInBounds_toArray, List.set_cons_zero, List.set_cons_succ]
          refine anyT_one (i := 15) (by kernel_rfl) rfl (fun K hK => ?_)
          rw [if_pos (by rfl)]
          try simp only [List.getElem_toArray, List.getElem_cons_succ, List.getElem_cons_zero]
          (refine wp_store_row 29 (.tmp 8) (.tmp 34) rfl g8 rb rfl rfl 29 _ H8'.out (by rw [ZB.out]; kernel_rfl) (by rw [ZB.out]; rfl) OB.out ?_)
          refine hK _ _ (not_mem rfl) ?_
          clear hK K
          try simp only [List.getElem_toArray, List.getElem_cons_succ, List.getElem_cons_zero, Act.put, List.setIfInBounds_toArray, List.set_cons_zero, List.set_cons_succ]
          refine anyT_done (by kernel_rfl) ?_ _
          have MP := (M.out.put (new := ra) H7.out rfl HGT7.out).put (new := rb) H8'.out rfl HGT8.out
          have P7 := (setRow_other (x4.setRow g7 ra) g8 g7 rb HNE.out).trans (setRow_heap x4 g7 _ ra _ _ H7.out)
          have P8 := setRow_heap (x4.setRow g7 ra) g8 _ rb _ _ H8'.out
          go_wp2_with (fail)
          go_meet
          exact ⟨g7, g8, ra, rb, rfl, rfl, Lib.hid ⟨MP, P7, P8, (RA.out.setRow H7.out rfl).setRow H8'.out rfl, (RB.out.setRow H7.out rfl).setRow H8'.out rfl⟩⟩
        · rw [if_pos (by rfl)]
          try simp only [List.getElem_toArray, List.getElem_cons_succ, List.getElem_cons_zero]
          (go_simp)
          refine hK _ _ (fun _ => HKX.out x2 _ HSX.out (below_alloc x2 _) ⟨blk_lt M.out.pa, HBK.out⟩) ?_
          clear hK K
          try simp only [List.getElem_toArray, List.getElem_cons_succ, List.getElem_cons_zero, Act.put, List.setIfInBounds_toArray, List.set_cons_zero, List.set_cons_succ]
          obtain ⟨x3, hw⟩ : ∃ x, x = x2.alloc (.cells zR 29) := ⟨_, rfl⟩
          rw [show x2.alloc (.cells #[.bool false, .string { data := #[] }, .string { data := #[] }, .slice none 0 0] 29) = x3 from hw.symm]
          have hb : Below x2.heap.size x2 x3 := by rw [hw]; exact below_alloc _ _
          have H8 := Lib.hid (show x3.heap[x2.heap.size]? = some (.cells zR 29 (0, 0)) by rw [hw]; exact heap_alloc_new _ _)
          have HGT8 := Lib.hid (show w.heap.size + 1 < x2.heap.size from blk_lt M.out.re)
          replace HSX := Lib.hid (HKX.out _ _ HSX.out hb ⟨blk_lt M.out.pa, HBK.out⟩)
          replace HBK := Lib.hid (Nat.lt_of_lt_of_le HBK.out hb.size)
          replace HXY := Lib.hid (show _ ∧ _ from ⟨HXY.out.1.below hb, HXY.out.2.below hb⟩)
          replace M := Lib.hid (M.out.call hb)
          replace RA := Lib.hid (RA.out.below hb)
          replace RB := Lib.hid (RB.out.below hb)
          obtain ⟨g8, hg⟩ : ∃ g, g = x2.heap.size := ⟨_, rfl⟩
          rw [← hg] at H8 HGT8 ⊢
          clear hg hw hb
          refine anyT_one (i := 12) (by kernel_rfl) rfl (fun K hK => ?_)
          rw [if_pos (by rfl)]
          try simp only [List.getElem_toArray, List.getElem_cons_succ, List.getElem_cons_zero]
          (go_simp)
          refine hK _ _ (fun _ => HKX.out x3 _ HSX.out (below_alloc x3 _) ⟨blk_lt M.out.pa, HBK.out⟩) ?_
          clear hK K
          try simp only [List.getElem_toArray, List.getElem_cons_succ, List.getElem_cons_zero, Act.put, List.setIfInBounds_toArray, List.set_cons_zero, List.set_cons_succ]
          obtain ⟨x4, hw⟩ : ∃ x, x = x3.alloc (.cells zR 29) := ⟨_, rfl⟩
          rw [show x3.alloc (.cells #[.bool false, .string { data := #[] }, .string { data := #[] }, .slice none 0 0] 29) = x4 from hw.symm]
          have hb : Below x3.heap.size x3 x4 := by rw [hw]; exact below_alloc _ _
          have H7 := Lib.hid (show x4.heap[x3.heap.size]? = some (.cells zR 29 (0, 0)) by rw [hw]; exact heap_alloc_new _ _)
          have HGT7 := Lib.hid (show w.heap.size + 1 < x3.heap.size from blk_lt M.out.re)
          have HNE := Lib.hid (show g8 ≠ x3.heap.size from Nat.ne_of_lt (blk_lt H8.out))
          replace HSX := Lib.hid (HKX.out _ _ HSX.out hb ⟨blk_lt M.out.pa, HBK.out⟩)
          replace HBK := Lib.hid (Nat.lt_of_lt_of_le HBK.out hb.size)
          replace HXY := Lib.hid (show _ ∧ _ from ⟨HXY.out.1.below hb, HXY.out.2.below hb⟩)
          replace M := Lib.hid (M.out.call hb)
          replace RA := Lib.hid (RA.out.below hb)
          replace RB := Lib.hid (RB.out.below hb)
          replace H8 := Lib.hid ((hb.block _ (blk_lt H8.out)).trans H8.out)
          obtain ⟨g7, hg⟩ : ∃ g, g = x3.heap.size := ⟨_, rfl⟩
          rw [← hg] at H7 HGT7 HNE ⊢
          clear hg hw hb
          have ZA := Lib.hid RA.out.size
          have ZB := Lib.hid RB.out.size
          have OA := Lib.hid RA.out.one
          have OB := Lib.hid RB.out.one
          have H8' := Lib.hid ((setRow_other x4 g7 g8 ra (Ne.symm HNE.out.symm)).trans H8.out)
          refine anyT_one (i := 14) (by kernel_rfl) rfl (fun K hK => ?_)
          rw [if_pos (by rfl)]
          try simp only [List.getElem_toArray, List.getElem_cons_succ, List.getElem_cons_zero]
          (refine wp_store_row 29 (.tmp 7) (.tmp 28) rfl g7 ra rfl rfl 29 _ H7.out (by rw [ZA.out]; kernel_rfl) (by rw [ZA.out]; rfl) OA.out ?_)
          refine hK _ _ (not_mem rfl) ?_
          clear hK K
          try simp only [List.getElem_toArray, List.getElem_cons_succ, List.getElem_cons_zero, Act.put, List.setIfInBounds_toArray, List.set_cons_zero, List.set_cons_succ]
          refine anyT_one (i := 15) (by kernel_rfl) rfl (fun K hK => ?_)
          rw [if_pos (by rfl)]
          try simp only [List.getElem_toArray, List.getElem_cons_succ, List.getElem_cons_zero]
          (refine wp_store_row 29 (.tmp 8) (.tmp 34) rfl g8 rb rfl rfl 29 _ H8'.out (by rw [ZB.out]; kernel_rfl) (by rw [ZB.out]; rfl) OB.out ?_)
          refine hK _ _ (not_mem rfl) ?_
          clear hK K
          try simp only [List.getElem_toArray, List.getElem_cons_succ, List.getElem_cons_zero, Act.put, List.setIfInBounds_toArray, List.set_cons_zero, List.set_cons_succ]
          refine anyT_done (by kernel_rfl) ?_ _
          have MP := (M.out.put (new := ra) H7.out rfl HGT7.out).put (new := rb) H8'.out rfl HGT8.out
          have P7 := (setRow_other (x4.setRow g7 ra) g8 g7 rb HNE.out.symm).trans (setRow_heap x4 g7 _ ra _ _ H7.out)
          have P8 := setRow_heap (x4.setRow g7 ra) g8 _ rb _ _ H8'.out
          go_wp2_with (fail)
          go_meet
          exact ⟨g7, g8, ra, rb, rfl, rfl, Lib.hid ⟨MP, P7, P8, (RA.out.setRow H7.out rfl).setRow H8'.out rfl, (RB.out.setRow H7.out rfl).setRow H8'.out rfl⟩⟩
      · rw [if_pos (by rfl)]
        try simp only [List.getElem_toArray, List.getElem_cons_succ, List.getElem_cons_zero]
        (go_simp)
        refine hK _ _ (fun _ => HKX.out x1 _ HSX.out (below_alloc x1 _) ⟨blk_lt M.out.pa, HBK.out⟩) ?_
        clear hK K
        try simp only [List.getElem_toArray, List.getElem_cons_succ, List.getElem_cons_zero, Act.put, List.setIfInBounds_toArray, List.set_cons_zero, List.set_cons_succ]
        obtain ⟨x2, hw⟩ : ∃ x, x = x1.alloc (.cells zR 29) := ⟨_, rfl⟩
        rw [show x1.alloc (.cells #[.bool false, .string { data := #[] }, .string { data := #[] }, .slice none 0 0] 29) = x2 from hw.symm]
        have hb : Below x1.heap.size x1 x2 := by rw [hw]; exact below_alloc _ _
        have H7 := Lib.hid (show x2.heap[x1.heap.size]? = some (.cells zR 29 (0, 0)) by rw [hw]; exact heap_alloc_new _ _)
        have HGT7 := Lib.hid (show w.heap.size + 1 < x1.heap.size from blk_lt M.out.re)
        replace HSX := Lib.hid (HKX.out _ _ HSX.out hb ⟨blk_lt M.out.pa, HBK.out⟩)
        replace HBK := Lib.hid (Nat.lt_of_lt_of_le HBK.out hb.size)
        replace HXY := Lib.hid (show _ ∧ _ from ⟨HXY.out.1.below hb, HXY.out.2.below hb⟩)
        replace M := Lib.hid (M.out.call hb)
        replace RA := Lib.hid (RA.out.below hb)
        obtain ⟨g7, hg⟩ : ∃ g, g = x1.heap.size := ⟨_, rfl⟩
        rw [← hg] at H7 HGT7 ⊢
        clear hg hw hb
        refine anyT_ready (rs := [11, 13]) (by kernel_rfl) (by simp) ?_
        refine readyT_cons rfl (fun K hK => ?_) (readyT_cons rfl (fun K hK => ?_) readyT_nil)
        · rw [if_pos (by rfl)]
          try simp only [List.getElem_toArray, List.getElem_cons_succ, List.getElem_cons_zero]
          (go_simp; refine (HIB.out _ HXY.out.2).mono ?_; rintro e x3 ⟨rb, rfl, ht, hb⟩; replace HSX := Lib.hid (HKX.out _ _ HSX.out hb ⟨blk_lt M.out.pa, HBK.out⟩); replace HBK := Lib.hid (Nat.lt_of_lt_of_le HBK.out hb.size); replace HXY := Lib.hid (show _ ∧ _ from ⟨HXY.out.1.below hb, HXY.out.2.below hb⟩); replace M := Lib.hid (M.out.call hb); replace RA := Lib.hid (RA.out.below hb); replace H7 := Lib.hid ((hb.block _ (blk_lt H7.out)).trans H7.out); have RB := Lib.hid ht; clear ht hb)
          refine hK _ _ (fun _ => HSX.out) ?_
          clear hK K
          try simp only [List.getElem_toArray, List.getElem_cons_succ, List.getElem_cons_zero, Act.put, List.setIfInBounds_toArray, List.set_cons_zero, List.set_cons_succ]
          refine anyT_one (i := 13) (by kernel_rfl) rfl (fun K hK => ?_)
          rw [if_pos (by rfl)]
          try simp only [List.getElem_toArray, List.getElem_cons_succ, List.getElem_cons_zero]
          (go_simp)
          refine hK _ _ (fun _ => HKX.out x3 _ HSX.out (below_alloc x3 _) ⟨blk_lt M.out.pa, HBK.out⟩) ?_
          clear hK K
          try simp only [List.getElem_toArray, List.getElem_cons_succ, List.getElem_cons_zero, Act.put, List.setIfInBounds_toArray, List.set_cons_zero, List.set_cons_succ]
          obtain ⟨x4, hw⟩ : ∃ x, x = x3.alloc (.cells zR 29) := ⟨_, rfl⟩
          rw [show x3.alloc (.cells #[.bool false, .string { data := #[] }, .string { data := #[] }, .slice none 0 0] 29) = x4 from hw.symm]
          have hb : Below x3.heap.size x3 x4 := by rw [hw]; exact below_alloc _ _
          have H8 := Lib.hid (show x4.heap[x3.heap.size]? = some (.cells zR 29 (0, 0)) by rw [hw]; exact heap_alloc_new _ _)
          have HGT8 := Lib.hid (show w.heap.size + 1 < x3.heap.size from blk_lt M.out.re)
          have HNE := Lib.hid (show g7 ≠ x3.heap.size from Nat.ne_of_lt (blk_lt H7.out))
          replace HSX := Lib.hid (HKX.out _ _ HSX.out hb ⟨blk_lt M.out.pa, HBK.out⟩)
          replace HBK := Lib.hid (Nat.lt_of_lt_of_le HBK.out hb.size)
          replace HXY := Lib.hid (show _ ∧ _ from ⟨HXY.out.1.below hb, HXY.out.2.below hb⟩)
          replace M := Lib.hid (M.out.call hb)
          replace RA := Lib.hid (RA.out.below hb)
          replace RB := Lib.hid (RB.out.below hb)
          replace H7 := Lib.hid ((hb.block _ (blk_lt H7.out)).trans H7.out)
          obtain ⟨g8, hg⟩ : ∃ g, g = x3.heap.size := ⟨_, rfl⟩
          rw [← hg] at H8 HGT8 HNE ⊢
          clear hg hw hb
          have ZA := Lib.hid RA.out.size
          have ZB := Lib.hid RB.out.size
          have OA := Lib.hid RA.out.one
          have OB := Lib.hid RB.out.one
          have H8' := Lib.hid ((setRow_other x4 g7 g8 ra (Ne.symm HNE.out)).trans H8.out)
          refine anyT_one (i := 14) (by kernel_rfl) rfl (fun K hK => ?_)
          rw [if_pos (by rfl)]
          try simp only [List.getElem_toArray, List.getElem_cons_succ, List.getElem_cons_zero]
          (refine wp_store_row 29 (.tmp 7) (.tmp 28) rfl g7 ra rfl rfl 29 _ H7.out (by rw [ZA.out]; kernel_rfl) (by rw [ZA.out]; rfl) OA.out ?_)
          refine hK _ _ (not_mem rfl) ?_
          clear hK K
          try simp only [List.getElem_toArray, List.getElem_cons_succ, List.getElem_cons_zero, Act.put, List.setIfInBounds_toArray, List.set_cons_zero, List.set_cons_succ]
          refine anyT_one (i := 15) (by kernel_rfl) rfl (fun K hK => ?_)
          rw [if_pos (by rfl)]
          try simp only [List.getElem_toArray, List.getElem_cons_succ, List.getElem_cons_zero]
          (refine wp_store_row 29 (.tmp 8) (.tmp 34) rfl g8 rb rfl rfl 29 _ H8'.out (by rw [ZB.out]; kernel_rfl) (by rw [ZB.out]; rfl) OB.out ?_)
          refine hK _ _ (not_mem rfl) ?_
          clear hK K
          try simp only [List.getElem_toArray, List.getElem_cons_succ, List.getElem_cons_zero, Act.put, List.setIfInBounds_toArray, List.set_cons_zero, List.set_cons_succ]
          refine anyT_done (by kernel_rfl) ?_ _
          have MP := (M.out.put (new := ra) H7.out rfl HGT7.out).put (new := rb) H8'.out rfl HGT8.out
          have P7 := (setRow_other (x4.setRow g7 ra) g8 g7 rb HNE.out).trans (setRow_heap x4 g7 _ ra _ _ H7.out)
          have P8 := setRow_heap (x4.setRow g7 ra) g8 _ rb _ _ H8'.out
          go_wp2_with (fail)
          go_meet
          exact ⟨g7, g8, ra, rb, rfl, rfl, Lib.hid ⟨MP, P7, P8, (RA.out.setRow H7.out rfl).setRow H8'.out rfl, (RB.out.setRow H7.out rfl).setRow H8'.out rfl⟩⟩
        · rw [if_pos (by rfl)]
          try simp only [List.getElem_toArray, List.getElem_cons_succ, List.getElem_cons_zero]
          (go_simp)
          refine hK _ _ (fun _ => HKX.out x2 _ HSX.out (below_alloc x2 _) ⟨blk_lt M.out.pa, HBK.out⟩) ?_
          clear hK K
          try simp only [List.getElem_toArray, List.getElem_cons_succ, List.getElem_cons_zero, Act.put, List.setIfInBounds_toArray, List.set_cons_zero, List.set_cons_succ]
          obtain ⟨x3, hw⟩ : ∃ x, x = x2.alloc (.cells zR 29) := ⟨_, rfl⟩
          rw [show x2.alloc (.cells #[.bool false, .string { data := #[] }, .string { data := #[] }, .slice none 0 0] 29) = x3 from hw.symm]
          have hb : Below x2.heap.size x2 x3 := by rw [hw]; exact below_alloc _ _
          have H8 := Lib.hid (show x3.heap[x2.heap.size]? = some (.cells zR 29 (0, 0)) by rw [hw]; exact heap_alloc_new _ _)
          have HGT8 := Lib.hid (show w.heap.size + 1 < x2.heap.size from blk_lt M.out.re)
          have HNE := Lib.hid (show g7 ≠ x2.heap.size from Nat.ne_of_lt (blk_lt H7.out))
          replace HSX := Lib.hid (HKX.out _ _ HSX.out hb ⟨blk_lt M.out.pa, HBK.out⟩)
          replace HBK := Lib.hid (Nat.lt_of_lt_of_le HBK.out hb.size)
          replace HXY := Lib.hid (show _ ∧ _ from ⟨HXY.out.1.below hb, HXY.out.2.below hb⟩)
          replace M := Lib.hid (M.out.call hb)
          replace RA := Lib.hid (RA.out.below hb)
          replace H7 := Lib.hid ((hb.block _ (blk_lt H7.out)).trans H7.out)
          obtain ⟨g8, hg⟩ : ∃ g, g = x2.heap.size := ⟨_, rfl⟩
          rw [← hg] at H8 HGT8 HNE ⊢
          clear hg hw hb
          refine anyT_one (i := 11) (by kernel_rfl) rfl (fun K hK => ?_)
          rw [if_pos (by rfl)]
          try simp only [List.getElem_toArray, List.getElem_cons_succ, List.getElem_cons_zero]
          (go_simp; refine (HIB.out _ HXY.out.2).mono ?_; rintro e x4 ⟨rb, rfl, ht, hb⟩; replace HSX := Lib.hid (HKX.out _ _ HSX.out hb ⟨blk_lt M.out.pa, HBK.out⟩); replace HBK := Lib.hid (Nat.lt_of_lt_of_le HBK.out hb.size); replace HXY := Lib.hid (show _ ∧ _ from ⟨HXY.out.1.below hb, HXY.out.2.below hb⟩); replace M := Lib.hid (M.out.call hb); replace RA := Lib.hid (RA.out.below hb); replace H7 := Lib.hid ((hb.block _ (blk_lt H7.out)).trans H7.out); replace H8 := Lib.hid ((hb.block _ (blk_lt H8.out)).trans H8.out); have RB := Lib.hid ht; clear ht hb)
          refine hK _ _ (fun _ => HSX.out) ?_
          clear hK K
          try simp only [List.getElem_toArray, List.getElem_cons_succ, List.getElem_cons_zero, Act.put, List.setIfInBounds_toArray, List.set_cons_zero, List.set_cons_succ]
          have ZA := Lib.hid RA.out.size
          have ZB := Lib.hid RB.out.size
          have OA := Lib.hid RA.out.one
          have OB := Lib.hid RB.out.one
          have H8' := Lib.hid ((setRow_other x4 g7 g8 ra (Ne.symm HNE.out)).trans H8.out)
          refine anyT_one (i := 14) (by kernel_rfl) rfl (fun K hK => ?_)
          rw [if_pos (by rfl)]
          try simp only [List.getElem_toArray, List.getElem_cons_succ, List.getElem_cons_zero]
          (refine wp_store_row 29 (.tmp 7) (.tmp 28) rfl g7 ra rfl rfl 29 _ H7.out (by rw [ZA.out]; kernel_rfl) (by rw [ZA.out]; rfl) OA.out ?_)
          refine hK _ _ (not_mem rfl) ?_
          clear hK K
          try simp only [List.getElem_toArray, List.getElem_cons_succ, List.getElem_cons_zero, Act.put, List.setIfInBounds_toArray, List.set_cons_zero, List.set_cons_succ]
          refine anyT_one (i := 15) (by kernel_rfl) rfl (fun K hK => ?_)
          rw [if_pos (by rfl)]
          try simp only [List.getElem_toArray, List.getElem_cons_succ, List.getElem_cons_zero]
          (refine wp_store_row 29 (.tmp 8) (.tmp 34) rfl g8 rb rfl rfl 29 _ H8'.out (by rw [ZB.out]; kernel_rfl) (by rw [ZB.out]; rfl) OB.out ?_)
          refine hK _ _ (not_mem rfl) ?_
          clear hK K
          try simp only [List.getElem_toArray, List.getElem_cons_succ, List.getElem_cons_zero, Act.put, List.setIfInBounds_toArray, List.set_cons_zero, List.set_cons_succ]
          refine anyT_done (by kernel_rfl) ?_ _
          have MP := (M.out.put (new := ra) H7.out rfl HGT7.out).put (new := rb) H8'.out rfl HGT8.out
          have P7 := (setRow_other (x4.setRow g7 ra) g8 g7 rb HNE.out).trans (setRow_heap x4 g7 _ ra _ _ H7.out)
          have P8 := setRow_heap (x4.setRow g7 ra) g8 _ rb _ _ H8'.out
          go_wp2_with (fail)
          go_meet
          exact ⟨g7, g8, ra, rb, rfl, rfl, Lib.hid ⟨MP, P7, P8, (RA.out.setRow H7.out rfl).setRow H8'.out rfl, (RB.out.setRow H7.out rfl).setRow H8'.out rfl⟩⟩
      · rw [if_pos (by rfl)]
        try simp only [List.getElem_toArray, List.getElem_cons_succ, List.getElem_cons_zero]
        (go_simp)
        refine hK _ _ (fun _ => HKX.out x1 _ HSX.out (below_alloc x1 _) ⟨blk_lt M.out.pa, HBK.out⟩) ?_
        clear hK K
        try simp only [List.getElem_toArray, List.getElem_cons_succ, List.getElem_cons_zero, Act.put, List.setIfInBounds_toArray, List.set_cons_zero, List.set_cons_succ]
        obtain ⟨x2, hw⟩ : ∃ x, x = x1.alloc (.cells zR 29) := ⟨_, rfl⟩
        rw [show x1.alloc (.cells #[.bool false, .string { data := #[] }, .string { data := #[] }, .slice none 0 0] 29) = x2 from hw.symm]
        have hb : Below x1.heap.size x1 x2 := by rw [hw]; exact below_alloc _ _
        have H8 := Lib.hid (show x2.heap[x1.heap.size]? = some (.cells zR 29 (0, 0)) by rw [hw]; exact heap_alloc_new _ _)
        have HGT8 := Lib.hid (show w.heap.size + 1 < x1.heap.size from blk_lt M.out.re)
        replace HSX := Lib.hid (HKX.out _ _ HSX.out hb ⟨blk_lt M.out.pa, HBK.out⟩)
        replace HBK := Lib.hid (Nat.lt_of_lt_of_le HBK.out hb.size)
        replace HXY := Lib.hid (show _ ∧ _ from ⟨HXY.out.1.below hb, HXY.out.2.below hb⟩)
        replace M := Lib.hid (M.out.call hb)
        replace RA := Lib.hid (RA.out.below hb)
        obtain ⟨g8, hg⟩ : ∃ g, g = x1.heap.size := ⟨_, rfl⟩
        rw [← hg] at H8 HGT8 ⊢
        clear hg hw hb
        refine anyT_ready (rs := [11, 12]) (by kernel_rfl) (by simp) ?_
        refine readyT_cons rfl (fun K hK => ?_) (readyT_cons rfl (fun K hK => ?_) readyT_nil)
        · rw [if_pos (by rfl)]
          try simp only [List.getElem_toArray, List.getElem_cons_succ, List.getElem_cons_zero]
          (go_simp; refine (HIB.out _ HXY.out.2).mono ?_; rintro e x3 ⟨rb, rfl, ht, hb⟩; replace HSX := Lib.hid (HKX.out _ _ HSX.out hb ⟨blk_lt M.out.pa, HBK.out⟩); replace HBK := Lib.hid (Nat.lt_of_lt_of_le HBK.out hb.size); replace HXY := Lib.hid (show _ ∧ _ from ⟨HXY.out.1.below hb, HXY.out.2.below hb⟩); replace M := Lib.hid (M.out.call hb); replace RA := Lib.hid (RA.out.below hb); replace H8 := Lib.hid ((hb.block _ (blk_lt H8.out)).trans H8.out); have RB := Lib.hid ht; clear ht hb)
          refine hK _ _ (fun _ => HSX.out) ?_
          clear hK K
          try simp only [List.getElem_toArray, List.getElem_cons_succ, List.getElem_cons_zero, Act.put, List.setIfInBounds_toArray, List.set_cons_zero, List.set_cons_succ]
          refine anyT_one (i := 12) (by kernel_rfl) rfl (fun K hK => ?_)
          rw [if_pos (by rfl)]
          try simp only [List.getElem_toArray, List.getElem_cons_succ, List.getElem_cons_zero]
          (go_simp)
          refine hK _ _ (fun _ => HKX.out x3 _ HSX.out (below_alloc x3 _) ⟨blk_lt M.out.pa, HBK.out⟩) ?_
          clear hK K
          try simp only [List.getElem_toArray, List.getElem_cons_succ, List.getElem_cons_zero, Act.put, List.setIfInBounds_toArray, List.set_cons_zero, List.set_cons_succ]
          obtain ⟨x4, hw⟩ : ∃ x, x = x3.alloc (.cells zR 29) := ⟨_, rfl⟩
          rw [show x3.alloc (.cells #[.bool false, .string { data := #[] }, .string { data := #[] }, .slice none 0 0] 29) = x4 from hw.symm]
          have hb : Below x3.heap.size x3 x4 := by rw [hw]; exact below_alloc _ _
          have H7 := Lib.hid (show x4.heap[x3.heap.size]? = some (.cells zR 29 (0, 0)) by rw [hw]; exact heap_alloc_new _ _)
          have HGT7 := Lib.hid (show w.heap.size + 1 < x3.heap.size from blk_lt M.out.re)
          have HNE := Lib.hid (show g8 ≠ x3.heap.size from Nat.ne_of_lt (blk_lt H8.out))
          replace HSX := Lib.hid (HKX.out _ _ HSX.out hb ⟨blk_lt M.out.pa, HBK.out⟩)
          replace HBK := Lib.hid (Nat.lt_of_lt_of_le HBK.out hb.size)
          replace HXY := Lib.hid (show _ ∧ _ from ⟨HXY.out.1.below hb, HXY.out.2.below hb⟩)
          replace M := Lib.hid (M.out.call hb)
          replace RA := Lib.hid (RA.out.below hb)
          replace RB := Lib.hid (RB.out.below hb)
          replace H8 := Lib.hid ((hb.block _ (blk_lt H8.out)).trans H8.out)
          obtain ⟨g7, hg⟩ : ∃ g, g = x3.heap.size := ⟨_, rfl⟩
          rw [← hg] at H7 HGT7 HNE ⊢
          clear hg hw hb
          have ZA := Lib.hid RA.out.size
          have ZB := Lib.hid RB.out.size
          have OA := Lib.hid RA.out.one
          have OB := Lib.hid RB.out.one
          have H8' := Lib.hid ((setRow_other x4 g7 g8 ra (Ne.symm HNE.out.symm)).trans H8.out)
          refine anyT_one (i := 14) (by kernel_rfl) rfl (fun K hK => ?_)
          rw [if_pos (by rfl)]
          try simp only [List.getElem_toArray, List.getElem_cons_succ, List.getElem_cons_zero]
          (refine wp_store_row 29 (.tmp 7) (.tmp 28) rfl g7 ra rfl rfl 29 _ H7.out (by rw [ZA.out]; kernel_rfl) (by rw [ZA.out]; rfl) OA.out ?_)
          refine hK _ _ (not_mem rfl) ?_
          clear hK K
          try simp only [List.getElem_toArray, List.getElem_cons_succ, List.getElem_cons_zero, Act.put, List.setIfInBounds_toArray, List.set_cons_zero, List.set_cons_succ]
          refine anyT_one (i := 15) (by kernel_rfl) rfl (fun K hK => ?_)
          rw [if_pos (by rfl)]
          try simp only [List.getElem_toArray, List.getElem_cons_succ, List.getElem_cons_zero]
          (refine wp_store_row 29 (.tmp 8) (.tmp 34) rfl g8 rb rfl rfl 29 _ H8'.out (by rw [ZB.out]; kernel_rfl) (by rw [ZB.out]; rfl) OB.out ?_)
          refine hK _ _ (not_mem rfl) ?_
          clear hK K
          try simp only [List.getElem_toArray, List.getElem_cons_succ, List.getElem_cons_zero, Act.put, List.setIfInBounds_toArray, List.set_cons_zero, List.set_cons_succ]
          refine anyT_done (by kernel_rfl) ?_ _
          have MP := (M.out.put (new := ra) H7.out rfl HGT7.out).put (new := rb) H8'.out rfl HGT8.out
          have P7 := (setRow_other (x4.setRow g7 ra) g8 g7 rb HNE.out.symm).trans (setRow_heap x4 g7 _ ra _ _ H7.out)
          have P8 := setRow_heap (x4.setRow g7 ra) g8 _ rb _ _ H8'.out
          go_wp2_with (fail)
          go_meet
          exact ⟨g7, g8, ra, rb, rfl, rfl, Lib.hid ⟨MP, P7, P8, (RA.out.setRow H7.out rfl).setRow H8'.out rfl, (RB.out.setRow H7.out rfl).setRow H8'.out rfl⟩⟩
        · rw [if_pos (by rfl)]
          try simp only [List.getElem_toArray, List.getElem_cons_succ, List.getElem_cons_zero]
          (go_simp)
          refine hK _ _ (fun _ => HKX.out x2 _ HSX.out (below_alloc x2 _) ⟨blk_lt M.out.pa, HBK.out⟩) ?_
          clear hK K
          try simp only [List.getElem_toArray, List.getElem_cons_succ, List.getElem_cons_zero, Act.put, List.setIfInBounds_toArray, List.set_cons_zero, List.set_cons_succ]
          obtain ⟨x3, hw⟩ : ∃ x, x = x2.alloc (.cells zR 29) := ⟨_, rfl⟩
          rw [show x2.alloc (.cells #[.bool false, .string { data := #[] }, .string { data := #[] }, .slice none 0 0] 29) = x3 from hw.symm]
          have hb : Below x2.heap.size x2 x3 := by rw [hw]; exact below_alloc _ _
          have H7 := Lib.hid (show x3.heap[x2.heap.size]? = some (.cells zR 29 (0, 0)) by rw [hw]; exact heap_alloc_new _ _)
          have HGT7 := Lib.hid (show w.heap.size + 1 < x2.heap.size from blk_lt M.out.re)
          have HNE := Lib.hid (show g8 ≠ x2.heap.size from Nat.ne_of_lt (blk_lt H8.out))
          replace HSX := Lib.hid (HKX.out _ _ HSX.out hb ⟨blk_lt M.out.pa, HBK.out⟩)
          replace HBK := Lib.hid (Nat.lt_of_lt_of_le HBK.out hb.size)
          replace HXY := Lib.hid (show _ ∧ _ from ⟨HXY.out.1.below hb, HXY.out.2.below hb⟩)
          replace M := Lib.hid (M.out.call hb)
          replace RA := Lib.hid (RA.out.below hb)
          replace H8 := Lib.hid ((hb.block _ (blk_lt H8.out)).trans H8.out)
          obtain ⟨g7, hg⟩ : ∃ g, g = x2.heap.size := ⟨_, rfl⟩
          rw [← hg] at H7 HGT7 HNE ⊢
          clear hg hw hb
          refine anyT_one (i := 11) (by kernel_rfl) rfl (fun K hK => ?_)
          rw [if_pos (by rfl)]
          try simp only [List.getElem_toArray, List.getElem_cons_succ, List.getElem_cons_zero]
          (go_simp; refine (HIB.out _ HXY.out.2).mono ?_; rintro e x4 ⟨rb, rfl, ht, hb⟩; replace HSX := Lib.hid (HKX.out _ _ HSX.out hb ⟨blk_lt M.out.pa, HBK.out⟩); replace HBK := Lib.hid (Nat.lt_of_lt_of_le HBK.out hb.size); replace HXY := Lib.hid (show _ ∧ _ from ⟨HXY.out.1.below hb, HXY.out.2.below hb⟩); replace M := Lib.hid (M.out.call hb); replace RA := Lib.hid (RA.out.below hb); replace H7 := Lib.hid ((hb.block _ (blk_lt H7.out)).trans H7.out); replace H8 := Lib.hid ((hb.block _ (blk_lt H8.out)).trans H8.out); have RB := Lib.hid ht; clear ht hb)
          refine hK _ _ (fun _ => HSX.out) ?_
          clear hK K
          try simp only [List.getElem_toArray, List.getElem_cons_succ, List.getElem_cons_zero, Act.put, List.setIfInBounds_toArray, List.set_cons_zero, List.set_cons_succ]
          have ZA := Lib.hid RA.out.size
          have ZB := Lib.hid RB.out.size
          have OA := Lib.hid RA.out.one
          have OB := Lib.hid RB.out.one
          have H8' := Lib.hid ((setRow_other x4 g7 g8 ra (Ne.symm HNE.out.symm)).trans H8.out)
          refine anyT_one (i := 14) (by kernel_rfl) rfl (fun K hK => ?_)
          rw [if_pos (by rfl)]
          try simp only [List.getElem_toArray, List.getElem_cons_succ, List.getElem_cons_zero]
          (refine wp_store_row 29 (.tmp 7) (.tmp 28) rfl g7 ra rfl rfl 29 _ H7.out (by rw [ZA.out]; kernel_rfl) (by rw [ZA.out]; rfl) OA.out ?_)
          refine hK _ _ (not_mem rfl) ?_
          clear hK K
          try simp only [List.getElem_toArray, List.getElem_cons_succ, List.getElem_cons_zero, Act.put, List.setIfInBounds_toArray, List.set_cons_zero, List.set_cons_succ]
          refine anyT_one (i := 15) (by kernel_rfl) rfl (fun K hK => ?_)
          rw [if_pos (by rfl)]
          try simp only [List.getElem_toArray, List.getElem_cons_succ, List.getElem_cons_zero]
          (refine wp_store_row 29 (.tmp 8) (.tmp 34) rfl g8 rb rfl rfl 29 _ H8'.out (by rw [ZB.out]; kernel_rfl) (by rw [ZB.out]; rfl) OB.out ?_)
          refine hK _ _ (not_mem rfl) ?_
          clear hK K
          try simp only [List.getElem_toArray, List.getElem_cons_succ, List.getElem_cons_zero, Act.put, List.setIfInBounds_toArray, List.set_cons_zero, List.set_cons_succ]
          refine anyT_done (by kernel_rfl) ?_ _
          have MP := (M.out.put (new := ra) H7.out rfl HGT7.out).put (new := rb) H8'.out rfl HGT8.out
          have P7 := (setRow_other (x4.setRow g7 ra) g8 g7 rb HNE.out.symm).trans (setRow_heap x4 g7 _ ra _ _ H7.out)
          have P8 := setRow_heap (x4.setRow g7 ra) g8 _ rb _ _ H8'.out
          go_wp2_with (fail)
          go_meet
          exact ⟨g7, g8, ra, rb, rfl, rfl, Lib.hid ⟨MP, P7, P8, (RA.out.setRow H7.out rfl).setRow H8'.out rfl, (RB.out.setRow H7.out rfl).setRow H8'.out rfl⟩⟩
    · rw [if_pos (by rfl)]
      try simp only [List.getElem_toArray, List.getElem_cons_succ, List.getElem_cons_zero]
      (go_simp)
      refine hK _ _ (fun _ => HKX.out w5 _ HSX.out (below_alloc w5 _) ⟨blk_lt M.out.pa, HBK.out⟩) ?_
      clear hK K
      try simp only [List.getElem_toArray, List.getElem_cons_succ, List.getElem_cons_zero, Act.put, List.setIfInBounds_toArray, List.set_cons_zero, List.set_cons_succ]
      obtain ⟨x1, hw⟩ : ∃ x, x = w5.alloc (.cells zR 29) := ⟨_, rfl⟩
      rw [show w5.alloc (.cells #[.bool false, .string { data := #[] }, .string { data := #[] }, .slice none 0 0] 29) = x1 from hw.symm]
      have hb : Below w5.heap.size w5 x1 := by rw [hw]; exact below_alloc _ _
      have H7 := Lib.hid (show x1.heap[w5.heap.size]? = some (.cells zR 29 (0, 0)) by rw [hw]; exact heap_alloc_new _ _)
      have HGT7 := Lib.hid (show w.heap.size + 1 < w5.heap.size from blk_lt M.out.re)
      replace HSX := Lib.hid (HKX.out _ _ HSX.out hb ⟨blk_lt M.out.pa, HBK.out⟩)
      replace HBK := Lib.hid (Nat.lt_of_lt_of_le HBK.out hb.size)
      replace HXY := Lib.hid (show _ ∧ _ from ⟨HXY.out.1.below hb, HXY.out.2.below hb⟩)
      replace M := Lib.hid (M.out.call hb)
      obtain ⟨g7, hg⟩ : ∃ g, g = w5.heap.size := ⟨_, rfl⟩
      rw [← hg] at H7 HGT7 ⊢
      clear hg hw hb
      refine anyT_ready (rs := [5, 13]) (by kernel_rfl) (by simp) ?_
      refine readyT_cons rfl (fun K hK => ?_) (readyT_cons rfl (fun K hK => ?_) readyT_nil)
      · rw [if_pos (by rfl)]
        try simp only [List.getElem_toArray, List.getElem_cons_succ, List.getElem_cons_zero]
        (go_simp; refine (HIA.out _ HXY.out.1).mono ?_; rintro e x2 ⟨ra, rfl, ht, hb⟩; replace HSX := Lib.hid (HKX.out _ _ HSX.out hb ⟨blk_lt M.out.pa, HBK.out⟩); replace HBK := Lib.hid (Nat.lt_of_lt_of_le HBK.out hb.size); replace HXY := Lib.hid (show _ ∧ _ from ⟨HXY.out.1.below hb, HXY.out.2.below hb⟩); replace M := Lib.hid (M.out.call hb); replace H7 := Lib.hid ((hb.block _ (blk_lt H7.out)).trans H7.out); have RA := Lib.hid ht; clear ht hb)
        refine hK _ _ (fun _ => HSX.out) ?_
        clear hK K
        try simp only [List.getElem_toArray, List.getElem_cons_succ, List.getElem_cons_zero, Act.put, List.setIfInBounds_toArray, List.set_cons_zero, List.set_cons_succ]
        refine anyT_ready (rs := [11, 13]) (by kernel_rfl) (by simp) ?_
        refine readyT_cons rfl (fun K hK => ?_) (readyT_cons rfl (fun K hK => ?_) readyT_nil)
        · rw [if_pos (by rfl)]
          try simp only [List.getElem_toArray, List.getElem_cons_succ, List.getElem_cons_zero]
          (go_simp; refine (HIB.out _ HXY.out.2).mono ?_; rintro e x3 ⟨rb, rfl, ht, hb⟩; replace HSX := Lib.hid (HKX.out _ _ HSX.out hb ⟨blk_lt M.out.pa, HBK.out⟩); replace HBK := Lib.hid (Nat.lt_of_lt_of_le HBK.out hb.size); replace HXY := Lib.hid (show _ ∧ _ from ⟨HXY.out.1.below hb, HXY.out.2.below hb⟩); replace M := Lib.hid (M.out.call hb); replace RA := Lib.hid (RA.out.below hb); replace H7 := Lib.hid ((hb.block _ (blk_lt H7.out)).trans H7.out); have RB := Lib.hid ht; clear ht hb)
          refine hK _ _ (fun _ => HSX.out) ?_
          clear hK K
          try simp only [List.getElem_toArray, List.getElem_cons_succ, List.getElem_cons_zero, Act.put, List.setIfInBounds_toArray, List.set_cons_zero, List.set_cons_succ]
          refine anyT_one (i := 13) (by kernel_rfl) rfl (fun K hK => ?_)
          rw [if_pos (by rfl)]
          try simp only [List.getElem_toArray, List.getElem_cons_succ, List.getElem_cons_zero]
          (go_simp)
          refine hK _ _ (fun _ => HKX.out x3 _ HSX.out (below_alloc x3 _) ⟨blk_lt M.out.pa, HBK.out⟩) ?_
          clear hK K
          try simp only [List.getElem_toArray, List.getElem_cons_succ, List.getElem_cons_zero, Act.put, List.setIfInBounds_toArray, List.set_cons_zero, List.set_cons_succ]
          obtain ⟨x4, hw⟩ : ∃ x, x = x3.alloc (.cells zR 29) := ⟨_, rfl⟩
          rw [show x3.alloc (.cells #[.bool false, .string { data := #[] }, .string { data := #[] }, .slice none 0 0] 29) = x4 from hw.symm]
          have hb : Below x3.heap.size x3 x4 := by rw [hw]; exact below_alloc _ _
          have H8 := Lib.hid (show x4.heap[x3.heap.size]? = some (.cells zR 29 (0, 0)) by rw [hw]; exact heap_alloc_new _ _)
          have HGT8 := Lib.hid (show w.heap.size + 1 < x3.heap.size from blk_lt M.out.re)
          have HNE := Lib.hid (show g7 ≠ x3.heap.size from Nat.ne_of_lt (blk_lt H7.out))
          replace HSX := Lib.hid (HKX.out _ _ HSX.out hb ⟨blk_lt M.out.pa, HBK.out⟩)
          replace HBK := Lib.hid (Nat.lt_of_lt_of_le HBK.out hb.size)
          replace HXY := Lib.hid (show _ ∧ _ from ⟨HXY.out.1.below hb, HXY.out.2.below hb⟩)
          replace M := Lib.hid (M.out.call hb)
          replace RA := Lib.hid (RA.out.below hb)
          replace RB := Lib.hid (RB.out.below hb)
          replace H7 := Lib.hid ((hb.block _ (blk_lt H7.out)).trans H7.out)
          obtain ⟨g8, hg⟩ : ∃ g, g = x3.heap.size := ⟨_, rfl⟩
          rw [← hg] at H8 HGT8 HNE ⊢
          clear hg hw hb
          have ZA := Lib.hid RA.out.size
          have ZB := Lib.hid RB.out.size
          have OA := Lib.hid RA.out.one
          have OB := Lib.hid RB.out.one
          have H8' := Lib.hid ((setRow_other x4 g7 g8 ra (Ne.symm HNE.out)).trans H8.out)
          refine anyT_one (i := 14) (by kernel_rfl) rfl (fun K hK => ?_)
          rw [if_pos (by rfl)]
          try simp only [List.getElem_toArray, List.getElem_cons_succ, List.getElem_cons_zero]
          (refine wp_store_row 29 (.tmp 7) (.tmp 28) rfl g7 ra rfl rfl 29 _ H7.out (by rw [ZA.out]; kernel_rfl) (by rw [ZA.out]; rfl) OA.out ?_)
          refine hK _ _ (not_mem rfl) ?_
          clear hK K
          try simp only [List.getElem_toArray, List.getElem_cons_succ, List.getElem_cons_zero, Act.put, List.setIfInBounds_toArray, List.set_cons_zero, List.set_cons_succ]
          refine anyT_one (i := 15) (by kernel_rfl) rfl (fun K hK => ?_)
          rw [if_pos (by rfl)]
          try simp only [List.getElem_toArray, List.getElem_cons_succ, List.getElem_cons_zero]
          (refine wp_store_row 29 (.tmp 8) (.tmp 34) rfl g8 rb rfl rfl 29 _ H8'.out (by rw [ZB.out]; kernel_rfl) (by rw [ZB.out]; rfl) OB.out ?_)
          refine hK _ _ (not_mem rfl) ?_
          clear hK K
          try simp only [List.getElem_toArray, List.getElem_cons_succ, List.getElem_cons_zero, Act.put, List.setIfInBounds_toArray, List.set_cons_zero, List.set_cons_succ]
          refine anyT_done (by kernel_rfl) ?_ _
          have MP := (M.out.put (new := ra) H7.out rfl HGT7.out).put (new := rb) H8'.out rfl HGT8.out
          have P7 := (setRow_other (x4.setRow g7 ra) g8 g7 rb HNE.out).trans (setRow_heap x4 g7 _ ra _ _ H7.out)
          have P8 := setRow_heap (x4.setRow g7 ra) g8 _ rb _ _ H8'.out
          go_wp2_with (fail)
          go_meet
          exact ⟨g7, g8, ra, rb, rfl, rfl, Lib.hid ⟨MP, P7, P8, (RA.out.setRow H7.out rfl).setRow H8'.out rfl, (RB.out.setRow H7.out rfl).setRow H8'.out rfl⟩⟩
        · rw [if_pos (by rfl)]
          try simp only [List.getElem_toArray, List.getElem_cons_succ, List.getElem_cons_zero]
          (go_simp)
          refine hK _ _ (fun _ => HKX.out x2 _ HSX.out (below_alloc x2 _) ⟨blk_lt M.out.pa, HBK.out⟩) ?_
          clear hK K
          try simp only [List.getElem_toArray, List.getElem_cons_succ, List.getElem_cons_zero, Act.put, List.setIfInBounds_toArray, List.set_cons_zero, List.set_cons_succ]
          obtain ⟨x3, hw⟩ : ∃ x, x = x2.alloc (.cells zR 29) := ⟨_, rfl⟩
          rw [show x2.alloc (.cells #[.bool false, .string { data := #[] }, .string { data := #[] }, .slice none 0 0] 29) = x3 from hw.symm]
          have hb : Below x2.heap.size x2 x3 := by rw [hw]; exact below_alloc _ _
          have H8 := Lib.hid (show x3.heap[x2.heap.size]? = some (.cells zR 29 (0, 0)) by rw [hw]; exact heap_alloc_new _ _)
          have HGT8 := Lib.hid (show w.heap.size + 1 < x2.heap.size from blk_lt M.out.re)
          have HNE := Lib.hid (show g7 ≠ x2.heap.size from Nat.ne_of_lt (blk_lt H7.out))
          replace HSX := Lib.hid (HKX.out _ _ HSX.out hb ⟨blk_lt M.out.pa, HBK.out⟩)
          replace HBK := Lib.hid (Nat.lt_of_lt_of_le HBK.out hb.size)
          replace HXY := Lib.hid (show _ ∧ _ from ⟨HXY.out.1.below hb, HXY.out.2.below hb⟩)
          replace M := Lib.hid (M.out.call hb)
          replace RA := Lib.hid (RA.out.below hb)
          replace H7 := Lib.hid ((hb.block _ (blk_lt H7.out)).trans H7.out)
          obtain ⟨g8, hg⟩ : ∃ g, g = x2.heap.size := ⟨_, rfl⟩
          rw [← hg] at H8 HGT8 HNE ⊢
          clear hg hw hb
          refine anyT_one (i := 11) (by kernel_rfl) rfl (fun K hK => ?_)
          rw [if_pos (by rfl)]
          try simp only [List.getElem_toArray, List.getElem_cons_succ, List.getElem_cons_zero]
          (go_simp; refine (HIB.out _ HXY.out.2).mono ?_; rintro e x4 ⟨rb, rfl, ht, hb⟩; replace HSX := Lib.hid (HKX.out _ _ HSX.out hb ⟨blk_lt M.out.pa, HBK.out⟩); replace HBK := Lib.hid (Nat.lt_of_lt_of_le HBK.out hb.size); replace HXY := Lib.hid (show _ ∧ _ from ⟨HXY.out.1.below hb, HXY.out.2.below hb⟩); replace M := Lib.hid (M.out.call hb); replace RA := Lib.hid (RA.out.below hb); replace H7 := Lib.hid ((hb.block _ (blk_lt H7.out)).trans H7.out); replace H8 := Lib.hid ((hb.block _ (blk_lt H8.out)).trans H8.out); have RB := Lib.hid ht; clear ht hb)
          refine hK _ _ (fun _ => HSX.out) ?_
          clear hK K
          try simp only [List.getElem_toArray, List.getElem_cons_succ, List.getElem_cons_zero, Act.put, List.setIfInBounds_toArray, List.set_cons_zero, List.set_cons_succ]
          have ZA := Lib.hid RA.out.size
          have ZB := Lib.hid RB.out.size
          have OA := Lib.hid RA.out.one
          have OB := Lib.hid RB.out.one
          have H8' := Lib.hid ((setRow_other x4 g7 g8 ra (Ne.symm HNE.out)).trans H8.out)
          refine anyT_one (i := 14) (by kernel_rfl) rfl (fun K hK => ?_)
          rw [if_pos (by rfl)]
          try simp only [List.getElem_toArray, List.getElem_cons_succ, List.getElem_cons_zero]
          (refine wp_store_row 29 (.tmp 7) (.tmp 28) rfl g7 ra rfl rfl 29 _ H7.out (by rw [ZA.out]; kernel_rfl) (by rw [ZA.out]; rfl) OA.out ?_)
          refine hK _ _ (not_mem rfl) ?_
          clear hK K
          try simp only [List.getElem_toArray, List.getElem_cons_succ, List.getElem_cons_zero, Act.put, List.setIfInBounds_toArray, List.set_cons_zero, List.set_cons_succ]
          refine anyT_one (i := 15) (by kernel_rfl) rfl (fun K hK => ?_)
          rw [if_pos (by rfl)]
          try simp only [List.getElem_toArray, List.getElem_cons_succ, List.getElem_cons_zero]
          (refine wp_store_row 29 (.tmp 8) (.tmp 34) rfl g8 rb rfl rfl 29 _ H8'.out (by rw [ZB.out]; kernel_rfl) (by rw [ZB.out]; rfl) OB.out ?_)
          refine hK _ _ (not_mem rfl) ?_
          clear hK K
          try simp only [List.getElem_toArray, List.getElem_cons_succ, List.getElem_cons_zero, Act.put, List.setIfInBounds_toArray, List.set_cons_zero, List.set_cons_succ]
          refine anyT_done (by kernel_rfl) ?_ _
          have MP := (M.out.put (new := ra) H7.out rfl HGT7.out).put (new := rb) H8'.out rfl HGT8.out
          have P7 := (setRow_other (x4.setRow g7 ra) g8 g7 rb HNE.out).trans (setRow_heap x4 g7 _ ra _ _ H7.out)
          have P8 := setRow_heap (x4.setRow g7 ra) g8 _ rb _ _ H8'.out
          go_wp2_with (fail)
          go_meet
          exact ⟨g7, g8, ra, rb, rfl, rfl, Lib.hid ⟨MP, P7, P8, (RA.out.setRow H7.out rfl).setRow H8'.out rfl, (RB.out.setRow H7.out rfl).setRow H8'.out rfl⟩⟩
      · rw [if_pos (by rfl)]
        try simp only [List.getElem_toArray, List.getElem_cons_succ, List.getElem_cons_zero]
        (go_simp)
        refine hK _ _ (fun _ => HKX.out x1 _ HSX.out (below_alloc x1 _) ⟨blk_lt M.out.pa, HBK.out⟩) ?_
        clear hK K
        try simp only [List.getElem_toArray, List.getElem_cons_succ, List.getElem_cons_zero, Act.put, List.setIfInBounds_toArray, List.set_cons_zero, List.set_cons_succ]
        obtain ⟨x2, hw⟩ : ∃ x, x = x1.alloc (.cells zR 29) := ⟨_, rfl⟩
        rw [show x1.alloc (.cells #[.bool false, .string { data := #[] }, .string { data := #[] }, .slice none 0 0] 29) = x2 from hw.symm]
        have hb : Below x1.heap.size x1 x2 := by rw [hw]; exact below_alloc _ _
        have H8 := Lib.hid (show x2.heap[x1.heap.size]? = some (.cells zR 29 (0, 0)) by rw [hw]; exact heap_alloc_new _ _)
        have HGT8 := Lib.hid (show w.heap.size + 1 < x1.heap.size from blk_lt M.out.re)
        have HNE := Lib.hid (show g7 ≠ x1.heap.size from Nat.ne_of_lt (blk_lt H7.out))
        replace HSX := Lib.hid (HKX.out _ _ HSX.out hb ⟨blk_lt M.out.pa, HBK.out⟩)
        replace HBK := Lib.hid (Nat.lt_of_lt_of_le HBK.out hb.size)
        replace HXY := Lib.hid (show _ ∧ _ from ⟨HXY.out.1.below hb, HXY.out.2.below hb⟩)
        replace M := Lib.hid (M.out.call hb)
        replace H7 := Lib.hid ((hb.block _ (blk_lt H7.out)).trans H7.out)
        obtain ⟨g8, hg⟩ : ∃ g, g = x1.heap.size := ⟨_, rfl⟩
        rw [← hg] at H8 HGT8 HNE ⊢
        clear hg hw hb
        refine anyT_one (i := 5) (by kernel_rfl) rfl (fun K hK => ?_)
        rw [if_pos (by rfl)]
        try simp only [List.getElem_toArray, List.getElem_cons_succ, List.getElem_cons_zero]
        (go_simp; refine (HIA.out _ HXY.out.1).mono ?_; rintro e x3 ⟨ra, rfl, ht, hb⟩; replace HSX := Lib.hid (HKX.out _ _ HSX.out hb ⟨blk_lt M.out.pa, HBK.out⟩); replace HBK := Lib.hid (Nat.lt_of_lt_of_le HBK.out hb.size); replace HXY := Lib.hid (show _ ∧ _ from ⟨HXY.out.1.below hb, HXY.out.2.below hb⟩); replace M := Lib.hid (M.out.call hb); replace H7 := Lib.hid ((hb.block _ (blk_lt H7.out)).trans H7.out); replace H8 := Lib.hid ((hb.block _ (blk_lt H8.out)).trans H8.out); have RA := Lib.hid ht; clear ht hb)
        refine hK _ _ (fun _ => HSX.out) ?_
        clear hK K
        try simp only [List.getElem_toArray, List.getElem_cons_succ, List.getElem_cons_zero, Act.put, List.setIfInBounds_toArray, List.set_cons_zero, List.set_cons_succ]
        refine anyT_one (i := 11) (by kernel_rfl) rfl (fun K hK => ?_)
        rw [if_pos (by rfl)]
        try simp only [List.getElem_toArray, List.getElem_cons_succ, List.getElem_cons_zero]
        (go_simp; refine (HIB.out _ HXY.out.2).mono ?_; rintro e x4 ⟨rb, rfl, ht, hb⟩; replace HSX := Lib.hid (HKX.out _ _ HSX.out hb ⟨blk_lt M.out.pa, HBK.out⟩); replace HBK := Lib.hid (Nat.lt_of_lt_of_le HBK.out hb.size); replace HXY := Lib.hid (show _ ∧ _ from ⟨HXY.out.1.below hb, HXY.out.2.below hb⟩); replace M := Lib.hid (M.out.call hb); replace RA := Lib.hid (RA.out.below hb); replace H7 := Lib.hid ((hb.block _ (blk_lt H7.out)).trans H7.out); replace H8 := Lib.hid ((hb.block _ (blk_lt H8.out)).trans H8.out); have RB := Lib.hid ht; clear ht hb)
        refine hK _ _ (fun _ => HSX.out) ?_
        clear hK K
        try simp only [List.getElem_toArray, List.getElem_cons_succ, List.getElem_cons_zero, Act.put, List.setIfInBounds_toArray, List.set_cons_zero, List.set_cons_succ]
        have ZA := Lib.hid RA.out.size
        have ZB := Lib.hid RB.out.size
        have OA := Lib.hid RA.out.one
        have OB := Lib.hid RB.out.one
        have H8' := Lib.hid ((setRow_other x4 g7 g8 ra (Ne.symm HNE.out)).trans H8.out)
        refine anyT_one (i := 14) (by kernel_rfl) rfl (fun K hK => ?_)
        rw [if_pos (by rfl)]
        try simp only [List.getElem_toArray, List.getElem_cons_succ, List.getElem_cons_zero]
        (refine wp_store_row 29 (.tmp 7) (.tmp 28) rfl g7 ra rfl rfl 29 _ H7.out (by rw [ZA.out]; kernel_rfl) (by rw [ZA.out]; rfl) OA.out ?_)
        refine hK _ _ (not_mem rfl) ?_
        clear hK K
        try simp only [List.getElem_toArray, List.getElem_cons_succ, List.getElem_cons_zero, Act.put, List.setIfInBounds_toArray, List.set_cons_zero, List.set_cons_succ]
        refine anyT_one (i := 15) (by kernel_rfl) rfl (fun K hK => ?_)
        rw [if_pos (by rfl)]
        try simp only [List.getElem_toArray, List.getElem_cons_succ, List.getElem_cons_zero]
        (refine wp_store_row 29 (.tmp 8) (.tmp 34) rfl g8 rb rfl rfl 29 _ H8'.out (by rw [ZB.out]; kernel_rfl) (by rw [ZB.out]; rfl) OB.out ?_)
        refine hK _ _ (not_mem rfl) ?_
        clear hK K
        try simp only [List.getElem_toArray, List.getElem_cons_succ, List.getElem_cons_zero, Act.put, List.setIfInBounds_toArray, List.set_cons_zero, List.set_cons_succ]
        refine anyT_done (by kernel_rfl) ?_ _
        have MP := (M.out.put (new := ra) H7.out rfl HGT7.out).put (new := rb) H8'.out rfl HGT8.out
        have P7 := (setRow_other (x4.setRow g7 ra) g8 g7 rb HNE.out).trans (setRow_heap x4 g7 _ ra _ _ H7.out)
        have P8 := setRow_heap (x4.setRow g7 ra) g8 _ rb _ _ H8'.out
        go_wp2_with (fail)
        go_meet
        exact ⟨g7, g8, ra, rb, rfl, rfl, Lib.hid ⟨MP, P7, P8, (RA.out.setRow H7.out rfl).setRow H8'.out rfl, (RB.out.setRow H7.out rfl).setRow H8'.out rfl⟩⟩
    · rw [if_pos (by rfl)]
      try simp only [List.getElem_toArray, List.getElem_cons_succ, List.getElem_cons_zero]
      (go_simp)
      refine hK _ _ (fun _ => HKX.out w5 _ HSX.out (below_alloc w5 _) ⟨blk_lt M.out.pa, HBK.out⟩) ?_
      clear hK K
      try simp only [List.getElem_toArray, List.getElem_cons_succ, List.getElem_cons_zero, Act.put, List.setIfInBounds_toArray, List.set_cons_zero, List.set_cons_succ]
      obtain ⟨x1, hw⟩ : ∃ x, x = w5.alloc (.cells zR 29) := ⟨_, rfl⟩
      rw [show w5.alloc (.cells #[.bool false, .string { data := #[] }, .string { data := #[] }, .slice none 0 0] 29) = x1 from hw.symm]
      have hb : Below w5.heap.size w5 x1 := by rw [hw]; exact below_alloc _ _
      have H8 := Lib.hid (show x1.heap[w5.heap.size]? = some (.cells zR 29 (0, 0)) by rw [hw]; exact heap_alloc_new _ _)
      have HGT8 := Lib.hid (show w.heap.size + 1 < w5.heap.size from blk_lt M.out.re)
      replace HSX := Lib.hid (HKX.out _ _ HSX.out hb ⟨blk_lt M.out.pa, HBK.out⟩)
      replace HBK := Lib.hid (Nat.lt_of_lt_of_le HBK.out hb.size)
      replace HXY := Lib.hid (show _ ∧ _ from ⟨HXY.out.1.below hb, HXY.out.2.below hb⟩)
      replace M := Lib.hid (M.out.call hb)
      obtain ⟨g8, hg⟩ : ∃ g, g = w5.heap.size := ⟨_, rfl⟩
      rw [← hg] at H8 HGT8 ⊢
      clear hg hw hb
      refine anyT_ready (rs := [5, 12]) (by kernel_rfl) (by simp) ?_
      refine readyT_cons rfl (fun K hK => ?_) (readyT_cons rfl (fun K hK => ?_) readyT_nil)
      · rw [if_pos (by rfl)]
        try simp only [List.getElem_toArray, List.getElem_cons_succ, List.getElem_cons_zero]
        (go_simp; refine (HIA.out _ HXY.out.1).mono ?_; rintro e x2 ⟨ra, rfl, ht, hb⟩; replace HSX := Lib.hid (HKX.out _ _ HSX.out hb ⟨blk_lt M.out.pa, HBK.out⟩); replace HBK := Lib.hid (Nat.lt_of_lt_of_le HBK.out hb.size); replace HXY := Lib.hid (show _ ∧ _ from ⟨HXY.out.1.below hb, HXY.out.2.below hb⟩); replace M := Lib.hid (M.out.call hb); replace H8 := Lib.hid ((hb.block _ (blk_lt H8.out)).trans H8.out); have RA := Lib.hid ht; clear ht hb)
        refine hK _ _ (fun _ => HSX.out) ?_
        clear hK K
        try simp only [List.getElem_toArray, List.getElem_cons_succ, List.getElem_cons_zero, Act.put, List.setIfInBounds_toArray, List.set_cons_zero, List.set_cons_succ]
        refine anyT_ready (rs := [11, 12]) (by kernel_rfl) (by simp) ?_
        refine readyT_cons rfl (fun K hK => ?_) (readyT_cons rfl (fun K hK => ?_) readyT_nil)
        · rw [if_pos (by rfl)]
          try simp only [List.getElem_toArray, List.getElem_cons_succ, List.getElem_cons_zero]
          (go_simp; refine (HIB.out _ HXY.out.2).mono ?_; rintro e x3 ⟨rb, rfl, ht, hb⟩; replace HSX := Lib.hid (HKX.out _ _ HSX.out hb ⟨blk_lt M.out.pa, HBK.out⟩); replace HBK := Lib.hid (Nat.lt_of_lt_of_le HBK.out hb.size); replace HXY := Lib.hid (show _ ∧ _ from ⟨HXY.out.1.below hb, HXY.out.2.below hb⟩); replace M := Lib.hid (M.out.call hb); replace RA := Lib.hid (RA.out.below hb); replace H8 := Lib.hid ((hb.block _ (blk_lt H8.out)).trans H8.out); have RB := Lib.hid ht; clear ht hb)
          refine hK _ _ (fun _ => HSX.out) ?_
          clear hK K
          try simp only [List.getElem_toArray, List.getElem_cons_succ, List.getElem_cons_zero, Act.put, List.setIfInBounds_toArray, List.set_cons_zero, List.set_cons_succ]
          refine anyT_one (i := 12) (by kernel_rfl) rfl (fun K hK => ?_)
          rw [if_pos (by rfl)]
          try simp only [List.getElem_toArray, List.getElem_cons_succ, List.getElem_cons_zero]
          (go_simp)
          refine hK _ _ (fun _ => HKX.out x3 _ HSX.out (below_alloc x3 _) ⟨blk_lt M.out.pa, HBK.out⟩) ?_
          clear hK K
          try simp only [List.getElem_toArray, List.getElem_cons_succ, List.getElem_cons_zero, Act.put, List.setIfInBounds_toArray, List.set_cons_zero, List.set_cons_succ]
          obtain ⟨x4, hw⟩ : ∃ x, x = x3.alloc (.cells zR 29) := ⟨_, rfl⟩
          rw [show x3.alloc (.cells #[.bool false, .string { data := #[] }, .string { data := #[] }, .slice none 0 0] 29) = x4 from hw.symm]
          have hb : Below x3.heap.size x3 x4 := by rw [hw]; exact below_alloc _ _
          have H7 := Lib.hid (show x4.heap[x3.heap.size]? = some (.cells zR 29 (0, 0)) by rw [hw]; exact heap_alloc_new _ _)
          have HGT7 := Lib.hid (show w.heap.size + 1 < x3.heap.size from blk_lt M.out.re)
          have HNE := Lib.hid (show g8 ≠ x3.heap.size from Nat.ne_of_lt (blk_lt H8.out))
          replace HSX := Lib.hid (HKX.out _ _ HSX.out hb ⟨blk_lt M.out.pa, HBK.out⟩)
          replace HBK := Lib.hid (Nat.lt_of_lt_of_le HBK.out hb.size)
          replace HXY := Lib.hid (show _ ∧ _ from ⟨HXY.out.1.below hb, HXY.out.2.below hb⟩)
          replace M := Lib.hid (M.out.call hb)
          replace RA := Lib.hid (RA.out.below hb)
          replace RB := Lib.hid (RB.out.below hb)
          replace H8 := Lib.hid ((hb.block _ (blk_lt H8.out)).trans H8.out)
          obtain ⟨g7, hg⟩ : ∃ g, g = x3.heap.size := ⟨_, rfl⟩
          rw [← hg] at H7 HGT7 HNE ⊢
          clear hg hw hb
          have ZA := Lib.hid RA.out.size
          have ZB := Lib.hid RB.out.size
          have OA := Lib.hid RA.out.one
          have OB := Lib.hid RB.out.one
          have H8' := Lib.hid ((setRow_other x4 g7 g8 ra (Ne.symm HNE.out.symm)).trans H8.out)
          refine anyT_one (i := 14) (by kernel_rfl) rfl (fun K hK => ?_)
          rw [if_pos (by rfl)]
          try simp only [List.getElem_toArray, List.getElem_cons_succ, List.getElem_cons_zero]
          (refine wp_store_row 29 (.tmp 7) (.tmp 28) rfl g7 ra rfl rfl 29 _ H7.out (by rw [ZA.out]; kernel_rfl) (by rw [ZA.out]; rfl) OA.out ?_)
          refine hK _ _ (not_mem rfl) ?_
          clear hK K
          try simp only [List.getElem_toArray, List.getElem_cons_succ, List.getElem_cons_zero, Act.put, List.setIfInBounds_toArray, List.set_cons_zero, List.set_cons_succ]
          refine anyT_one (i := 15) (by kernel_rfl) rfl (fun K hK => ?_)
          rw [if_pos (by rfl)]
          try simp only [List.getElem_toArray, List.getElem_cons_succ, List.getElem_cons_zero]
          (refine wp_store_row 29 (.tmp 8) (.tmp 34) rfl g8 rb rfl rfl 29 _ H8'.out (by rw [ZB.out]; kernel_rfl) (by rw [ZB.out]; rfl) OB.out ?_)
          refine hK _ _ (not_mem rfl) ?_
          clear hK K
          try simp only [List.getElem_toArray, List.getElem_cons_succ, List.getElem_cons_zero, Act.put, List.setIfInBounds_toArray, List.set_cons_zero, List.set_cons_succ]
          refine anyT_done (by kernel_rfl) ?_ _
          have MP := (M.out.put (new := ra) H7.out rfl HGT7.out).put (new := rb) H8'.out rfl HGT8.out
          have P7 := (setRow_other (x4.setRow g7 ra) g8 g7 rb HNE.out.symm).trans (setRow_heap x4 g7 _ ra _ _ H7.out)
          have P8 := setRow_heap (x4.setRow g7 ra) g8 _ rb _ _ H8'.out
          go_wp2_with (fail)
          go_meet
          exact ⟨g7, g8, ra, rb, rfl, rfl, Lib.hid ⟨MP, P7, P8, (RA.out.setRow H7.out rfl).setRow H8'.out rfl, (RB.out.setRow H7.out rfl).setRow H8'.out rfl⟩⟩
        · rw [if_pos (by rfl)]
          try simp only [List.getElem_toArray, List.getElem_cons_succ, List.getElem_cons_zero]
          (go_simp)
          refine hK _ _ (fun _ => HKX.out x2 _ HSX.out (below_alloc x2 _) ⟨blk_lt M.out.pa, HBK.out⟩) ?_
          clear hK K
          try simp only [List.getElem_toArray, List.getElem_cons_succ, List.getElem_cons_zero, Act.put, List.setIfInBounds_toArray, List.set_cons_zero, List.set_cons_succ]
          obtain ⟨x3, hw⟩ : ∃ x, x = x2.alloc (.cells zR 29) := ⟨_, rfl⟩
          rw [show x2.alloc (.cells #[.bool false, .string { data := #[] }, .string { data := #[] }, .slice none 0 0] 29) = x3 from hw.symm]
          have hb : Below x2.heap.size x2 x3 := by rw [hw]; exact below_alloc _ _
          have H7 := Lib.hid (show x3.heap[x2.heap.size]? = some (.cells zR 29 (0, 0)) by rw [hw]; exact heap_alloc_new _ _)
          have HGT7 := Lib.hid (show w.heap.size + 1 < x2.heap.size from blk_lt M.out.re)
          have HNE := Lib.hid (show g8 ≠ x2.heap.size from Nat.ne_of_lt (blk_lt H8.out))
          replace HSX := Lib.hid (HKX.out _ _ HSX.out hb ⟨blk_lt M.out.pa, HBK.out⟩)
          replace HBK := Lib.hid (Nat.lt_of_lt_of_le HBK.out hb.size)
          replace HXY := Lib.hid (show _ ∧ _ from ⟨HXY.out.1.below hb, HXY.out.2.below hb⟩)
          replace M := Lib.hid (M.out.call hb)
          replace RA := Lib.hid (RA.out.below hb)
          replace H8 := Lib.hid ((hb.block _ (blk_lt H8.out)).trans H8.out)
          obtain ⟨g7, hg⟩ : ∃ g, g = x2.heap.size := ⟨_, rfl⟩
          rw [← hg] at H7 HGT7 HNE ⊢
          clear hg hw hb
          refine anyT_one (i := 11) (by kernel_rfl) rfl (fun K hK => ?_)
          rw [if_pos (by rfl)]
          try simp only [List.getElem_toArray, List.getElem_cons_succ, List.getElem_cons_zero]
          (go_simp; refine (HIB.out _ HXY.out.2).mono ?_; rintro e x4 ⟨rb, rfl, ht, hb⟩; replace HSX := Lib.hid (HKX.out _ _ HSX.out hb ⟨blk_lt M.out.pa, HBK.out⟩); replace HBK := Lib.hid (Nat.lt_of_lt_of_le HBK.out hb.size); replace HXY := Lib.hid (show _ ∧ _ from ⟨HXY.out.1.below hb, HXY.out.2.below hb⟩); replace M := Lib.hid (M.out.call hb); replace RA := Lib.hid (RA.out.below hb); replace H7 := Lib.hid ((hb.block _ (blk_lt H7.out)).trans H7.out); replace H8 := Lib.hid ((hb.block _ (blk_lt H8.out)).trans H8.out); have RB := Lib.hid ht; clear ht hb)
          refine hK _ _ (fun _ => HSX.out) ?_
          clear hK K
          try simp only [List.getElem_toArray, List.getElem_cons_succ, List.getElem_cons_zero, Act.put, List.setIfInBounds_toArray, List.set_cons_zero, List.set_cons_succ]
          have ZA := Lib.hid RA.out.size
          have ZB := Lib.hid RB.out.size
          have OA := Lib.hid RA.out.one
          have OB := Lib.hid RB.out.one
          have H8' := Lib.hid ((setRow_other x4 g7 g8 ra (Ne.symm HNE.out.symm)).trans H8.out)
          refine anyT_one (i := 14) (by kernel_rfl) rfl (fun K hK => ?_)
          rw [if_pos (by rfl)]
          try simp only [List.getElem_toArray, List.getElem_cons_succ, List.getElem_cons_zero]
          (refine wp_store_row 29 (.tmp 7) (.tmp 28) rfl g7 ra rfl rfl 29 _ H7.out (by rw [ZA.out]; kernel_rfl) (by rw [ZA.out]; rfl) OA.out ?_)
          refine hK _ _ (not_mem rfl) ?_
          clear hK K
          try simp only [List.getElem_toArray, List.getElem_cons_succ, List.getElem_cons_zero, Act.put, List.setIfInBounds_toArray, List.set_cons_zero, List.set_cons_succ]
          refine anyT_one (i := 15) (by kernel_rfl) rfl (fun K hK => ?_)
          rw [if_pos (by rfl)]
          try simp only [List.getElem_toArray, List.getElem_cons_succ, List.getElem_cons_zero]
          (refine wp_store_row 29 (.tmp 8) (.tmp 34) rfl g8 rb rfl rfl 29 _ H8'.out (by rw [ZB.out]; kernel_rfl) (by rw [ZB.out]; rfl) OB.out ?_)
          refine hK _ _ (not_mem rfl) ?_
          clear hK K
          try simp only [List.getElem_toArray, List.getElem_cons_succ, List.getElem_cons_zero, Act.put, List.setIfInBounds_toArray, List.set_cons_zero, List.set_cons_succ]
          refine anyT_done (by kernel_rfl) ?_ _
          have MP := (M.out.put (new := ra) H7.out rfl HGT7.out).put (new := rb) H8'.out rfl HGT8.out
          have P7 := (setRow_other (x4.setRow g7 ra) g8 g7 rb HNE.out.symm).trans (setRow_heap x4 g7 _ ra _ _ H7.out)
          have P8 := setRow_heap (x4.setRow g7 ra) g8 _ rb _ _ H8'.out
          go_wp2_with (fail)
          go_meet
          exact ⟨g7, g8, ra, rb, rfl, rfl, Lib.hid ⟨MP, P7, P8, (RA.out.setRow H7.out rfl).setRow H8'.out rfl, (RB.out.setRow H7.out rfl).setRow H8'.out rfl⟩⟩
      · rw [if_pos (by rfl)]
        try simp only [List.getElem_toArray, List.getElem_cons_succ, List.getElem_cons_zero]
        (go_simp)
        refine hK _ _ (fun _ => HKX.out x1 _ HSX.out (below_alloc x1 _) ⟨blk_lt M.out.pa, HBK.out⟩) ?_
        clear hK K
        try simp only [List.getElem_toArray, List.getElem_cons_succ, List.getElem_cons_zero, Act.put, List.setIfInBounds_toArray, List.set_cons_zero, List.set_cons_succ]
        obtain ⟨x2, hw⟩ : ∃ x, x = x1.alloc (.cells zR 29) := ⟨_, rfl⟩
        rw [show x1.alloc (.cells #[.bool false, .string { data := #[] }, .string { data := #[] }, .slice none 0 0] 29) = x2 from hw.symm]
        have hb : Below x1.heap.size x1 x2 := by rw [hw]; exact below_alloc _ _
        have H7 := Lib.hid (show x2.heap[x1.heap.size]? = some (.cells zR 29 (0, 0)) by rw [hw]; exact heap_alloc_new _ _)
        have HGT7 := Lib.hid (show w.heap.size + 1 < x1.heap.size from blk_lt M.out.re)
        have HNE := Lib.hid (show g8 ≠ x1.heap.size from Nat.ne_of_lt (blk_lt H8.out))
        replace HSX := Lib.hid (HKX.out _ _ HSX.out hb ⟨blk_lt M.out.pa, HBK.out⟩)
        replace HBK := Lib.hid (Nat.lt_of_lt_of_le HBK.out hb.size)
        replace HXY := Lib.hid (show _ ∧ _ from ⟨HXY.out.1.below hb, HXY.out.2.below hb⟩)
        replace M := Lib.hid (M.out.call hb)
        replace H8 := Lib.hid ((hb.block _ (blk_lt H8.out)).trans H8.out)
        obtain ⟨g7, hg⟩ : ∃ g, g = x1.heap.size := ⟨_, rfl⟩
        rw [← hg] at H7 HGT7 HNE ⊢
        clear hg hw hb
        refine anyT_one (i := 5) (by kernel_rfl) rfl (fun K hK => ?_)
        rw [if_pos (by rfl)]
        try simp only [List.getElem_toArray, List.getElem_cons_succ, List.getElem_cons_zero]
        (go_simp; refine (HIA.out _ HXY.out.1).mono ?_; rintro e x3 ⟨ra, rfl, ht, hb⟩; replace HSX := Lib.hid (HKX.out _ _ HSX.out hb ⟨blk_lt M.out.pa, HBK.out⟩); replace HBK := Lib.hid (Nat.lt_of_lt_of_le HBK.out hb.size); replace HXY := Lib.hid (show _ ∧ _ from ⟨HXY.out.1.below hb, HXY.out.2.below hb⟩); replace M := Lib.hid (M.out.call hb); replace H7 := Lib.hid ((hb.block _ (blk_lt H7.out)).trans H7.out); replace H8 := Lib.hid ((hb.block _ (blk_lt H8.out)).trans H8.out); have RA := Lib.hid ht; clear ht hb)
        refine hK _ _ (fun _ => HSX.out) ?_
        clear hK K
        try simp only [List.getElem_toArray, List.getElem_cons_succ, List.getElem_cons_zero, Act.put, List.setIfInBounds_toArray, List.set_cons_zero, List.set_cons_succ]
        refine anyT_one (i := 11) (by kernel_rfl) rfl (fun K hK => ?_)
        rw [if_pos (by rfl)]
        try simp only [List.getElem_toArray, List.getElem_cons_succ, List.getElem_cons_zero]
        (go_simp; refine (HIB.out _ HXY.out.2).mono ?_; rintro e x4 ⟨rb, rfl, ht, hb⟩; replace HSX := Lib.hid (HKX.out _ _ HSX.out hb ⟨blk_lt M.out.pa, HBK.out⟩); replace HBK := Lib.hid (Nat.lt_of_lt_of_le HBK.out hb.size); replace HXY := Lib.hid (show _ ∧ _ from ⟨HXY.out.1.below hb, HXY.out.2.below hb⟩); replace M := Lib.hid (M.out.call hb); replace RA := Lib.hid (RA.out.below hb); replace H7 := Lib.hid ((hb.block _ (blk_lt H7.out)).trans H7.out); replace H8 := Lib.hid ((hb.block _ (blk_lt H8.out)).trans H8.out); have RB := Lib.hid ht; clear ht hb)
        refine hK _ _ (fun _ => HSX.out) ?_
        clear hK K
        try simp only [List.getElem_toArray, List.getElem_cons_succ, List.getElem_cons_zero, Act.put, List.setIfInBounds_toArray, List.set_cons_zero, List.set_cons_succ]
        have ZA := Lib.hid RA.out.size
        have ZB := Lib.hid RB.out.size
        have OA := Lib.hid RA.out.one
        have OB := Lib.hid RB.out.one
        have H8' := Lib.hid ((setRow_other x4 g7 g8 ra (Ne.symm HNE.out.symm)).trans H8.out)
        refine anyT_one (i := 14) (by kernel_rfl) rfl (fun K hK => ?_)
        rw [if_pos (by rfl)]
        try simp only [List.getElem_toArray, List.getElem_cons_succ, List.getElem_cons_zero]
        (refine wp_store_row 29 (.tmp 7) (.tmp 28) rfl g7 ra rfl rfl 29 _ H7.out (by rw [ZA.out]; kernel_rfl) (by rw [ZA.out]; rfl) OA.out ?_)
        refine hK _ _ (not_mem rfl) ?_
        clear hK K
        try simp only [List.getElem_toArray, List.getElem_cons_succ, List.getElem_cons_zero, Act.put, List.setIfInBounds_toArray, List.set_cons_zero, List.set_cons_succ]
        refine anyT_one (i := 15) (by kernel_rfl) rfl (fun K hK => ?_)
        rw [if_pos (by rfl)]
        try simp only [List.getElem_toArray, List.getElem_cons_succ, List.getElem_cons_zero]
        (refine wp_store_row 29 (.tmp 8) (.tmp 34) rfl g8 rb rfl rfl 29 _ H8'.out (by rw [ZB.out]; kernel_rfl) (by rw [ZB.out]; rfl) OB.out ?_)
        refine hK _ _ (not_mem rfl) ?_
        clear hK K
        try simp only [List.getElem_toArray, List.getElem_cons_succ, List.getElem_cons_zero, Act.put, List.setIfInBounds_toArray, List.set_cons_zero, List.set_cons_succ]
        refine anyT_done (by kernel_rfl) ?_ _
        have MP := (M.out.put (new := ra) H7.out rfl HGT7.out).put (new := rb) H8'.out rfl HGT8.out
        have P7 := (setRow_other (x4.setRow g7 ra) g8 g7 rb HNE.out.symm).trans (setRow_heap x4 g7 _ ra _ _ H7.out)
        have P8 := setRow_heap (x4.setRow g7 ra) g8 _ rb _ _ H8'.out
        go_wp2_with (fail)
        go_meet
        exact ⟨g7, g8, ra, rb, rfl, rfl, Lib.hid ⟨MP, P7, P8, (RA.out.setRow H7.out rfl).setRow H8'.out rfl, (RB.out.setRow H7.out rfl).setRow H8'.out rfl⟩⟩
  case rest =>
    clear HIA HIB M HSX HBK HXY HKX
    obtain ⟨g7, g8, ra, rb, rfl, rfl, MX⟩ := hcut
    have raZ := Lib.hid MX.out.ta.size
    have rbZ := Lib.hid MX.out.tb.size
    have raO := Lib.hid MX.out.ta.one
    have rbO := Lib.hid MX.out.tb.one
    obtain ⟨x1, x2, x3, hra⟩ := MX.out.ta.block
    obtain ⟨y1, y2, y3, hrb⟩ := MX.out.tb.block
    have c7 : wc.cell? ⟨g7, 0, none⟩ = some (.bool A.isSome) := by rw [cell_of_row _ _ 0 _ _ _ MX.out.h7, hra]; rfl
    have c8 : wc.cell? ⟨g8, 0, none⟩ = some (.bool B.isSome) := by rw [cell_of_row _ _ 0 _ _ _ MX.out.h8, hrb]; rfl
    clear hra hrb
    have M := Lib.hid MX.out.m
    cases A with
    | none =>
      have HF := Lib.hid (show joinR none B = B from rfl)
      have HRrb := Lib.hid MX.out.tb
      rw [show (none : Option AvT).isSome = false from rfl] at c7
      go_wp2_with (first
        | (refine wpList_load_row rfl 29 (.tmp 8) rfl g8 rfl 29 _ (0, 0) _ MX.out.h8 Tryd.underlying29 rfl (by rw [rbZ.out]; kernel_rfl) ?_)
        | (refine wpList_store_row rfl 29 (.tmp 4) (.tmp 38) rfl (w.heap.size + 1) rb rfl rfl 29 _ M.out.re (by rw [rbZ.out]; kernel_rfl) (by rw [rbZ.out]; rfl) rbO.out ?_))
      obtain ⟨e1, e2, e3⟩ := M.out.done HRrb.out
      refine bodyPost_ret (results_cell_row rfl _ _ (w.heap.size + 1) 29 rb (0, 0) _ rfl e3 Tryd.underlying29 rfl (by rw [rbZ.out]; kernel_rfl)) rfl ?_
      rw [HF.out]
      exact ⟨_, rfl, e2, e1⟩
    | some A =>
      rw [show (some A : Option AvT).isSome = true from rfl] at c7
      cases B with
      | none =>
        have HF := Lib.hid (show joinR (some A) none = some A from rfl)
        have HRra := Lib.hid MX.out.ta
        rw [show (none : Option AvT).isSome = false from rfl] at c8
        go_wp2_with (first
          | (refine wpList_load_row rfl 29 (.tmp 7) rfl g7 rfl 29 _ (0, 0) _ MX.out.h7 Tryd.underlying29 rfl (by rw [raZ.out]; kernel_rfl) ?_)
          | (refine wpList_store_row rfl 29 (.tmp 4) (.tmp 42) rfl (w.heap.size + 1) ra rfl rfl 29 _ M.out.re (by rw [raZ.out]; kernel_rfl) (by rw [raZ.out]; rfl) raO.out ?_))
        obtain ⟨e1, e2, e3⟩ := M.out.done HRra.out
        refine bodyPost_ret (results_cell_row rfl _ _ (w.heap.size + 1) 29 ra (0, 0) _ rfl e3 Tryd.underlying29 rfl (by rw [raZ.out]; kernel_rfl)) rfl ?_
        rw [HF.out]
        exact ⟨_, rfl, e2, e1⟩
      | some B =>
        have HF := Lib.hid (show joinR (some A) (some B) = some (rightN A B) from rfl)
        rw [show (some B : Option AvT).isSome = true from rfl] at c8
        replace HMM := Lib.hid (show A.many + B.many ≤ 1099511627776 from HMM.out)
        have HTA := Lib.hid (show RT wc ra A from MX.out.ta)
        have HTB := Lib.hid (show RT wc rb B from MX.out.tb)
        go_wp2_with (first
          | (refine wpList_load_row rfl 29 (.tmp 7) rfl g7 rfl 29 _ (0, 0) _ MX.out.h7 Tryd.underlying29 rfl (by rw [raZ.out]; kernel_rfl) ?_)
          | (refine wpList_load_row rfl 29 (.tmp 8) rfl g8 rfl 29 _ (0, 0) _ MX.out.h8 Tryd.underlying29 rfl (by rw [rbZ.out]; kernel_rfl) ?_)
          | (go_at_call 55; (with_reducible refine (rright_any _ _ A B _ HTA.out HTB.out HMM.out).mono ?_); rintro e w7 ⟨u2, rfl, ht, hb⟩; have HRu2 := Lib.hid ht; have u2Z := Lib.hid (RO.size ht); have u2O := Lib.hid (RO.one ht); replace M := Lib.hid (M.out.call hb); clear ht hb)
          | (refine wpList_store_row rfl 29 (.tmp 4) (.tmp 45) rfl (w.heap.size + 1) u2 rfl rfl 29 _ M.out.re (by rw [u2Z.out]; kernel_rfl) (by rw [u2Z.out]; rfl) u2O.out ?_))
        obtain ⟨e1, e2, e3⟩ := M.out.done HRu2.out
        refine bodyPost_ret (results_cell_row rfl _ _ (w.heap.size + 1) 29 u2 (0, 0) _ rfl e3 Tryd.underlying29 rfl (by rw [u2Z.out]; kernel_rfl)) rfl ?_
        rw [HF.out]
        exact ⟨_, rfl, e2, e1⟩
theorem rdrop_some (k : ByteArray) : ∀ (t : AvT) (w : World) (cs : Array Value), t.many ≤ 1099511627776 → RT w cs t → Calls Tryd.prog 29 #[.agg cs, .string k] w (NewR (t.rdrop k) w)
  | .leaf k0 v0, w, cs, hm, h => by
    by_cases hn : (getL [(k0, v0)] k).isSome = true
    · obtain rfl := h
      rw [AvT.rdrop, if_pos hn]
      exact rdrop_leaf k0 v0 k w hn
    · rw [AvT.rdrop, if_neg hn]
      exact rdrop_not _ k cs w h hm (show getL [(k0, v0)] k = none by simpa using hn)
  | .node a b, w, cs, hm, h => by
    by_cases hn : (getL (a.pairs ++ b.pairs) k).isSome = true
    · simp only [AvT.many] at hm
      rw [AvT.rdrop, if_pos hn]
      exact rdrop_node a b k cs w h hm hn (fun w cs h => rdrop_some k a w cs (by omega) h) (fun w cs h => rdrop_some k b w cs (by omega) h)
    · rw [AvT.rdrop, if_neg hn]
      exact rdrop_not _ k cs w h hm (show getL (a.pairs ++ b.pairs) k = none by simpa using hn)
def rdropO (t : Option AvT) (k : ByteArray) : Option AvT := match t with
  | none => none
  | some t => t.rdrop k
theorem rdrop_any (t : Option AvT) (cs : Array Value) (k : ByteArray) (w : World) (h : RO w cs t) (hm : manyO t ≤ 1099511627776) : Calls Tryd.prog 29 #[.agg cs, .string k] w (NewR (rdropO t k) w) := by
  cases t with
  | none => cases h; exact rdrop_none k w
  | some t => exact rdrop_some k t w cs hm h
theorem rsetO_eq {t : Option AvT} (h : balO t) (k v : ByteArray) : rsetO t k v = setO t k v := by
  cases t with
  | none => rfl
  | some t => exact rset_eq k v t h
theorem rdropO_eq {t : Option AvT} (h : balO t) (hs : Srt (pairsO t)) (k : ByteArray) : rdropO t k = dropO t k := by
  cases t with
  | none => rfl
  | some t => exact rdrop_eq k t h hs
end Go.Proofs.YtadolfacjolbkaaDoor

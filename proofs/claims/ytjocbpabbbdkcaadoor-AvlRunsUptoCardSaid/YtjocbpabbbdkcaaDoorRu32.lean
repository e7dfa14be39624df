/- Part 32 of the proof. -/
import Derived.Test.YtjocbpabbbdkcaaDoorRu24
import Derived.Test.YtjocbpabbbdkcaaDoorRu30
import Derived.Test.YtjocbpabbbdkcaaDoorRu31
namespace Go.Proofs.YtjocbpabbbdkcaaDoor
set_option linter.unusedVariables false
set_option linter.unusedSimpArgs false
open Go.RowKit
set_option maxRecDepth 100000
set_option linter.unusedSimpArgs false
set_option linter.unusedVariables false
theorem results_tmp_cell_row {P : Program} {fn : Func} {p u : Tmp} {ty : TypeId} (h : fn.results = #[.tmp u, .cell p ty]) (tmps : Array Value) (w : World) (g : Nat) (t : TypeId) (cs : Array Value) (fr : Nat × Nat) (d : TypeDesc)
    (hp : tmps.getD p undef = .pointer (some ⟨g, 0, none⟩)) (hg : w.heap[g]? = some (.cells cs t fr))
    (hu : P.underlying ty = some d) (hd : (match d with | .struct _ | .array _ _ => true | _ => false) = true) (hi : (P.info? ty).map (·.size) = some cs.size) :
    (results fn tmps).run P w = .ok (.tuple #[tmps.getD u undef, .agg cs]) w := by
  have hp' : tmps[p]?.getD undef = .pointer (some ⟨g, 0, none⟩) := by simpa using hp
  simp [results, h, hp', asAddr, run_loadVar_row w g t ty cs fr d hg hu hd hi]
theorem avsmall_mod (n : Int) (m : Nat) (hm : 0 < m) (hm2 : m < 1000) : ∃ k : Nat, k < m ∧ wrap64 ((IntKind.u64.wrap n).tmod m) = (k : Int) := by
  have h0 : 0 ≤ IntKind.u64.wrap n := by
    unfold IntKind.wrap
    simp [IntKind.bits, IntKind.signed]
    omega
  have h1 : (IntKind.u64.wrap n).tmod m = IntKind.u64.wrap n % m := Int.tmod_eq_emod_of_nonneg h0
  have h2 := Int.emod_nonneg (IntKind.u64.wrap n) (show (m : Int) ≠ 0 by omega)
  have h3 := Int.emod_lt_of_pos (IntKind.u64.wrap n) (show (0 : Int) < m by omega)
  refine ⟨(IntKind.u64.wrap n % m).toNat, by omega, ?_⟩
  rw [h1, Int.toNat_of_nonneg h2]
  unfold wrap64; omega
theorem TreeAt.setRow {w : World} {g : Nat} {old new : Array Value} {T : TypeId} (hg : w.heap[g]? = some (.cells old T (0, 0))) (hs : old.size = 4) : ∀ {t : AvT} {p : Nat}, TreeAt w p t → TreeAt (w.setRow g new) p t := by
  intro t
  have key : ∀ {p : Nat} {cs : Array Value}, w.heap[p]? = some (.cells cs 84 (0, 0)) → cs.size = 38 → (w.setRow g new).heap[p]? = some (.cells cs 84 (0, 0)) := fun {p cs} h hz => by
    have hne : p ≠ g := fun e => by
      subst e
      rw [h] at hg; injection hg with hg; injection hg with hg _; subst hg; omega
    exact (setRow_other _ _ _ _ hne).trans h
  induction t with
  | leaf k v => intro p h; exact key h (tCells_size ..)
  | node a b iha ihb =>
    intro p h
    obtain ⟨ga, gb, hl, h, h1, h2⟩ := h
    exact ⟨ga, gb, hl, key h (tCells_size ..), iha h1, ihb h2⟩
theorem TreeO.setRow {w : World} {g : Nat} {old new : Array Value} {T : TypeId} (hg : w.heap[g]? = some (.cells old T (0, 0))) (hs : old.size = 4) {v : Value} {t : Option AvT} (h : TreeO w v t) : TreeO (w.setRow g new) v t := by
  cases t with
  | none => exact h
  | some t => obtain ⟨p, e, h⟩ := h; exact ⟨p, e, h.setRow hg hs⟩
/-- a tree as the law grows it -/
structure GT (N n : Nat) (t : Option AvT) : Prop where
  bal : balO t
  srt : Srt (pairsO t)
  many : manyO t ≤ n
  size : ∀ p ∈ pairsO t, p.1.size + p.2.size ≤ N
theorem GT.none (N : Nat) : GT N 0 .none := ⟨trivial, List.Pairwise.nil, Nat.le_refl _, fun p hp => by cases hp⟩
theorem GT.mono {N n m : Nat} {t : Option AvT} (h : GT N n t) (hm : n ≤ m) : GT N m t := ⟨h.bal, h.srt, Nat.le_trans h.many hm, h.size⟩
theorem GT.set {N n : Nat} {t : Option AvT} (h : GT N n t) (k v : ByteArray) (hs : k.size + v.size ≤ N) : GT N (n + 1) (some (setO t k v)) := by
  refine ⟨setO_bal h.bal k v, setO_srt h.srt k v, ?_, ?_⟩
  · have := h.many
    cases t with
    | none => show (1 : Nat) ≤ _; omega
    | some t => have h2 := set_many k v t; show (t.set k v).many ≤ _; simp only [manyO] at this; omega
  · intro p hp
    have hz := h.size
    cases t with
    | none =>
      have : p = (k, v) := by simpa [pairsO, setO, AvT.pairs] using hp
      subst this; exact hs
    | some t =>
      have hp' : p ∈ (t.set k v).pairs := hp
      rw [set_pairs k v t h.srt] at hp'
      unfold insL at hp'
      rcases List.mem_append.1 hp' with hp' | hp'
      · exact hz p (List.mem_filter.1 hp').1
      · rcases List.mem_cons.1 hp' with rfl | hp'
        · exact hs
        · exact hz p (List.mem_filter.1 hp').1
theorem GT.drop {N n : Nat} {t : Option AvT} (h : GT N n t) (k : ByteArray) : GT N n (dropO t k) := by
  refine ⟨dropO_bal h.bal k, dropO_srt h.srt k, ?_, ?_⟩
  · have := h.many
    cases t with
    | none => exact this
    | some t =>
      unfold dropO
      dsimp only
      split
      · exact Nat.le_trans (without_many k t) this
      · exact this
  · intro p hp
    rw [dropO_pairs h.srt] at hp
    exact h.size p (List.mem_filter.1 hp).1
/-- what lies in memory while the trees grow -/
structure GM (w w' : World) (v : Value) (cs : Array Value) (t r : Option AvT) : Prop where
  below : Below w.heap.size w w'
  tree : TreeO w' v t
  res : w'.heap[w.heap.size]? = some (.cells zR 28 (0, 0))
  blk : w'.heap[w.heap.size + 1]? = some (.cells cs 28 (0, 0))
  ro : RO w' cs r
theorem GM.call {w w' w2 : World} {v : Value} {cs : Array Value} {t r : Option AvT} (m : GM w w' v cs t r) (h : Below w'.heap.size w' w2) : GM w w2 v cs t r :=
  ⟨m.below.trans (h.mono m.below.size), m.tree.below h, (h.block _ (blk_lt m.res)).trans m.res, (h.block _ (blk_lt m.blk)).trans m.blk, m.ro.below h⟩
theorem GM.turn {w w' w2 : World} {v v2 : Value} {cs : Array Value} {t t2 r : Option AvT} (m : GM w w' v cs t r) (h : Below w'.heap.size w' w2) (ht : TreeO w2 v2 t2) : GM w w2 v2 cs t2 r :=
  ⟨m.below.trans (h.mono m.below.size), ht, (h.block _ (blk_lt m.res)).trans m.res, (h.block _ (blk_lt m.blk)).trans m.blk, m.ro.below h⟩
theorem GM.put {w w' : World} {v : Value} {cs new : Array Value} {t r r2 : Option AvT} (m : GM w w' v cs t r) (h : RO w' new r2) : GM w (w'.setRow (w.heap.size + 1) new) v new t r2 :=
  ⟨below_setRow m.below (by omega) _, m.tree.setRow m.blk m.ro.size, (setRow_other _ _ _ _ (by omega)).trans m.res, setRow_heap _ _ _ _ _ _ m.blk, h.setRow m.blk m.ro.size⟩
theorem gm_start (w : World) : GM w ((w.alloc (.cells zR 28)).alloc (.cells zR 28)) (.pointer none) zR none none := by
  refine ⟨(below_alloc w _).trans ((below_alloc _ _).mono (by simp)), rfl, ?_, ?_, rfl⟩
  · rw [heap_alloc_old _ _ (by simp), heap_alloc_new]
  · have := heap_alloc_new (w.alloc (.cells zR 28)) (.cells zR 28)
    rw [size_alloc] at this; exact this
def GrPost (N : Nat) (w : World) (e : Ending) (w' : World) : Prop := ∃ v cs t, e = .returned (.tuple #[v, .agg cs]) ∧ TreeO w' v t ∧ RO w' cs t ∧ GT N 60 t ∧ Below w.heap.size w w'
theorem GM.done {N : Nat} {w w' : World} {v : Value} {cs : Array Value} {t : Option AvT} (m : GM w w' v cs t t) (g : GT N 60 t) :
    TreeO (w'.setRow w.heap.size cs) v t ∧ RO (w'.setRow w.heap.size cs) cs t ∧ Below w.heap.size w (w'.setRow w.heap.size cs) ∧ (w'.setRow w.heap.size cs).heap[w.heap.size]? = some (.cells cs 28 (0, 0)) :=
  ⟨m.tree.setRow m.res rfl, m.ro.setRow m.res rfl, below_setRow m.below (Nat.le_refl _) _, setRow_heap _ _ _ _ _ _ m.res⟩
set_option maxHeartbeats 8000000 in
theorem grown_any (va : Value) (ts : List AvA) (N : Nat) (w : World) (he : Env w) (hx : AvActs w va ts) (hk : ∀ t ∈ ts, t.kOk) (hs : ∀ t ∈ ts, t.key.size + t.val.size ≤ N) (hN : N ≤ 1048576) :
    Calls Tryd.prog 5 #[va] w (GrPost N w) := by
  obtain ⟨a, cap, rfl⟩ := hx.len
  have HX := Lib.hid hx
  have HE := Lib.hid he
  have HKO := Lib.hid hk
  have HS := Lib.hid hs
  have HNB := Lib.hid hN
  have hlen : ts.length ≤ maxLen := by obtain ⟨_, _, e, _, hm, _⟩ := hx; exact hm
  unfold maxLen at hlen
  have M := Lib.hid (gm_start w)
  have G := Lib.hid (GT.none N)
  clear hx he hk hs hN
  unfold GrPost
  go_enter Tryd.func5, Tryd.ntmps5
  go_upto_region 3 with (refine wpList_store_row rfl 28 (.tmp 5) (.tmp 7) rfl (w.heap.size + 1) zR rfl rfl 28 _ M.out.blk (by kernel_rfl) rfl (by simp [zR, Value.oneCell']) ?_)
  replace M := Lib.hid (M.out.put (new := zR) (r2 := none) rfl)
  have e0 : ((w.alloc (.cells #[.bool false, .string { data := #[] }, .string { data := #[] }, .slice none 0 0] 28)).alloc (.cells #[.bool false, .string { data := #[] }, .string { data := #[] }, .slice none 0 0] 28)).setRow (w.heap.size + 1) zR = ((w.alloc (.cells zR 28)).alloc (.cells zR 28)).setRow (w.heap.size + 1) zR := rfl
  rw [e0]
  clear e0
  generalize ((w.alloc (.cells zR 28)).alloc (.cells zR 28)).setRow (w.heap.size + 1) zR = w1 at *
  go_wp2_with (fail)
  go_loopw [4, 6] (fun v4 y wr => ∃ (k : Nat) (cs : Array Value) (t : Option AvT), k ≤ 60 ∧ k ≤ ts.length ∧ y = .int .i64 (k : Int) ∧ Hid (GM w wr v4 cs t t) ∧ Hid (GT N k t)) (fun _ y _ => 60 - (intOf y).toNat)
  case atStart => exact ⟨0, _, _, by omega, by omega, rfl, M, G⟩
  case round =>
    clear M G
    clear w1
    obtain ⟨k, cs, t, hk60, hkl, rfl, M, G⟩ := hrel
    have csZ := Lib.hid M.out.ro.size
    have csO := Lib.hid M.out.ro.one
    have HTB := Lib.hid (show manyO t ≤ 60 from Nat.le_trans G.out.many hk60)
    by_cases hlt : k < ts.length ∧ k < 60
    · obtain ⟨hlt1, hlt2⟩ := hlt
      obtain ⟨x, hx⟩ : ∃ x, ts[k]? = some x := ⟨ts[k], List.getElem?_eq_getElem hlt1⟩
      obtain ⟨b, off, rfl, hbl, p0, p1, p2⟩ := HX.out.at k x hx
      have HSZ0 := HS.out x (List.mem_of_getElem? hx)
      obtain ⟨kind, key, val⟩ := x
      simp only at p0 p1 p2 HSZ0
      have HSZ := Lib.hid (show key.size + val.size ≤ 140737488351232 by have := HNB.out; omega)
      replace HSZ0 := Lib.hid HSZ0
      have HAT := Lib.hid (fun (w' : World) (hb : Below w.heap.size w w') => (⟨(hb.cell (p := ⟨b, off + k * 3, none⟩) hbl).trans p0, (hb.cell (p := ⟨b, off + k * 3 + 1, none⟩) hbl).trans p1, (hb.cell (p := ⟨b, off + k * 3 + 2, none⟩) hbl).trans p2⟩ : w'.cell? ⟨b, off + k * 3, none⟩ = some (.int .i64 kind) ∧ w'.cell? ⟨b, off + k * 3 + 1, none⟩ = some (.string key) ∧ w'.cell? ⟨b, off + k * 3 + 2, none⟩ = some (.string val)))
      obtain ⟨q, hq4, hqe⟩ := avsmall_mod kind 4 (by decide) (by decide)
      simp only [Int.cast_ofNat_Int] at hqe
      clear hx p0 p1 p2 hbl
      by_cases hq : q = 3
      · have hq3 : ((q : Int) == 3) = true := by rw [beq_iff_eq]; omega
        have c0 := (HAT.out wr M.out.below).1
        have c1 := (HAT.out wr M.out.below).2.1
        clear hq4 hq
        go_upto_region 8 with (go_at_call 33; (with_reducible refine (drop_any u4 t key _ (HE.out.below M.out.below HE.out.lt) M.out.tree (by have := HTB.out; omega)).mono ?_); rintro e w5 ⟨v5, rfl, ht, hb⟩; replace M := Lib.hid (M.out.turn hb ht); clear ht hb)
        clear c0 c1 hqe hq3
        refine wp_region_T (fun w' => w'.rangeAt (w.heap.size + 1) 0 cs.toList ∧ w'.cell? ⟨b, off + k * 3 + 1, none⟩ = some (.string key)) [0, 3, 4, 5] (by kernel_rfl) ?_
        replace M := Lib.hid (M.out.call (Below.refl _ _).drew)
        generalize w5.drew = w5' at *
        refine anyT_takeY (i := 1) (v := .slice (some ⟨b, off, none⟩) ts.length cap) rfl (by kernel_rfl) (by kernel_rfl) (by kernel_rfl) (fun _ _ _ h => h) (by kernel_rfl) (Or.inl ⟨by rfl, by intro w; go_simp⟩) ?_
        try simp only [List.getElem_toArray, List.getElem_cons_succ, List.getElem_cons_zero, Act.put, List.setIfInBounds_toArray, List.set_cons_zero, List.set_cons_succ]
        refine anyT_takeY (i := 2) (v := .int .i64 (k : Int)) rfl (by kernel_rfl) (by kernel_rfl) (by kernel_rfl) (fun _ _ _ h => h) (by kernel_rfl) (Or.inl ⟨by rfl, by intro w; go_simp⟩) ?_
        try simp only [List.getElem_toArray, List.getElem_cons_succ, List.getElem_cons_zero, Act.put, List.setIfInBounds_toArray, List.set_cons_zero, List.set_cons_succ]
        refine anyT_take [4, 5, 6, 7] (i := 3) (v := .pointer (some ⟨b, off + k * 3, none⟩)) rfl (by kernel_rfl) (by kernel_rfl) (by kernel_rfl) (fun _ _ _ h => h) (by kernel_rfl) (Or.inl ⟨by rfl, fun w' _ => by go_simp⟩) ⟨range_of M.out.blk, (HAT.out _ M.out.below).2.1⟩ ?_
        try simp only [List.getElem_toArray, List.getElem_cons_succ, List.getElem_cons_zero, Act.put, List.setIfInBounds_toArray, List.set_cons_zero, List.set_cons_succ]
        refine anyT_take [5, 6, 7] (i := 4) (v := .pointer (some ⟨b, off + k * 3 + 1, none⟩)) rfl (by kernel_rfl) (by kernel_rfl) (by kernel_rfl) (fun _ _ _ h => h) (by kernel_rfl) (Or.inl ⟨by rfl, fun w' _ => by go_simp⟩) ⟨range_of M.out.blk, (HAT.out _ M.out.below).2.1⟩ ?_
        try simp only [List.getElem_toArray, List.getElem_cons_succ, List.getElem_cons_zero, Act.put, List.setIfInBounds_toArray, List.set_cons_zero, List.set_cons_succ]
        refine anyT_take [6, 7] (i := 0) (v := .agg cs) rfl (by kernel_rfl) (by kernel_rfl) (by kernel_rfl) (fun _ _ _ h => h) (by kernel_rfl) (agg_mid (by rfl) 28 (.tmp 5) rfl (w.heap.size + 1) 0 rfl _ _ (fun _ h => h.1) Tryd.underlying28 rfl (by rw [csZ.out]; kernel_rfl)) ⟨range_of M.out.blk, (HAT.out _ M.out.below).2.1⟩ ?_
        try simp only [List.getElem_toArray, List.getElem_cons_succ, List.getElem_cons_zero, Act.put, List.setIfInBounds_toArray, List.set_cons_zero, List.set_cons_succ]
        refine anyT_take [6, 7] (i := 5) (v := .string key) rfl (by kernel_rfl) (by kernel_rfl) (by kernel_rfl) (fun _ _ _ h => h) (by kernel_rfl) (Or.inl ⟨by rfl, fun w' hS => by have c := hS.2; go_simp⟩) ⟨range_of M.out.blk, (HAT.out _ M.out.below).2.1⟩ ?_
        try simp only [List.getElem_toArray, List.getElem_cons_succ, List.getElem_cons_zero, Act.put, List.setIfInBounds_toArray, List.set_cons_zero, List.set_cons_succ]
        refine anyT_one (i := 6) (by kernel_rfl) rfl (fun K hK => ?_)
        rw [if_pos (by rfl)]
        try simp only [List.getElem_toArray, List.getElem_cons_succ, List.getElem_cons_zero]
        (go_simp; refine (rdrop_any t cs key _ M.out.ro (by have := HTB.out; omega)).mono ?_; rintro e w6 ⟨u, rfl, ht, hb⟩; have HRU := Lib.hid ht; have uZ := Lib.hid (RO.size ht); have uO := Lib.hid (RO.one ht); replace M := Lib.hid (M.out.call hb); clear ht hb)
        refine hK _ _ (not_mem rfl) ?_
        clear hK K
        try simp only [List.getElem_toArray, List.getElem_cons_succ, List.getElem_cons_zero, Act.put, List.setIfInBounds_toArray, List.set_cons_zero, List.set_cons_succ]
        refine anyT_one (i := 7) (by kernel_rfl) rfl (fun K hK => ?_)
        rw [if_pos (by rfl)]
        try simp only [List.getElem_toArray, List.getElem_cons_succ, List.getElem_cons_zero]
        (refine wp_store_row 28 (.tmp 5) (.tmp 40) rfl (w.heap.size + 1) u rfl rfl 28 _ M.out.blk (by rw [uZ.out]; kernel_rfl) (by rw [uZ.out, csZ.out]) uO.out ?_)
        refine hK _ _ (not_mem rfl) ?_
        clear hK K
        try simp only [List.getElem_toArray, List.getElem_cons_succ, List.getElem_cons_zero, Act.put, List.setIfInBounds_toArray, List.set_cons_zero, List.set_cons_succ]
        refine anyT_done (by kernel_rfl) ?_ _
        replace M := Lib.hid (M.out.put HRU.out)
        rw [rdropO_eq G.out.bal G.out.srt key] at M
        generalize w6.setRow (w.heap.size + 1) u = w9 at *
        go_wp2_with (fail)
        go_roundw
        case rel => exact ⟨k + 1, u, _, by omega, by omega, by go_num, M, Lib.hid ((G.out.drop key).mono (by omega))⟩
        case measure => simp [intOf]; omega
      · have hq3 : ((q : Int) == 3) = false := by rw [beq_eq_false_iff_ne]; omega
        have c0 := (HAT.out wr M.out.below).1
        clear hq4 hq
        go_upto_region 9 with (fail)
        clear c0 hqe hq3
        refine wp_region_T (fun w' => w'.cell? ⟨b, off + k * 3 + 1, none⟩ = some (.string key) ∧ w'.cell? ⟨b, off + k * 3 + 2, none⟩ = some (.string val)) [3, 4, 5, 8, 9, 10] (by kernel_rfl) ?_
        replace M := Lib.hid (M.out.call (Below.refl _ _).drew)
        generalize wr.drew = w5 at *
        refine anyT_takeY (i := 0) (v := u4) rfl (by kernel_rfl) (by kernel_rfl) (by kernel_rfl) (fun _ _ _ h => h) (by kernel_rfl) (Or.inl ⟨by rfl, by intro w; go_simp⟩) ?_
        try simp only [List.getElem_toArray, List.getElem_cons_succ, List.getElem_cons_zero, Act.put, List.setIfInBounds_toArray, List.set_cons_zero, List.set_cons_succ]
        refine anyT_takeY (i := 1) (v := .slice (some ⟨b, off, none⟩) ts.length cap) rfl (by kernel_rfl) (by kernel_rfl) (by kernel_rfl) (fun _ _ _ h => h) (by kernel_rfl) (Or.inl ⟨by rfl, by intro w; go_simp⟩) ?_
        try simp only [List.getElem_toArray, List.getElem_cons_succ, List.getElem_cons_zero, Act.put, List.setIfInBounds_toArray, List.set_cons_zero, List.set_cons_succ]
        refine anyT_takeY (i := 2) (v := .int .i64 (k : Int)) rfl (by kernel_rfl) (by kernel_rfl) (by kernel_rfl) (fun _ _ _ h => h) (by kernel_rfl) (Or.inl ⟨by rfl, by intro w; go_simp⟩) ?_
        try simp only [List.getElem_toArray, List.getElem_cons_succ, List.getElem_cons_zero, Act.put, List.setIfInBounds_toArray, List.set_cons_zero, List.set_cons_succ]
        refine anyT_takeY (i := 6) (v := .slice (some ⟨b, off, none⟩) ts.length cap) rfl (by kernel_rfl) (by kernel_rfl) (by kernel_rfl) (fun _ _ _ h => h) (by kernel_rfl) (Or.inl ⟨by rfl, by intro w; go_simp⟩) ?_
        try simp only [List.getElem_toArray, List.getElem_cons_succ, List.getElem_cons_zero, Act.put, List.setIfInBounds_toArray, List.set_cons_zero, List.set_cons_succ]
        refine anyT_takeY (i := 7) (v := .int .i64 (k : Int)) rfl (by kernel_rfl) (by kernel_rfl) (by kernel_rfl) (fun _ _ _ h => h) (by kernel_rfl) (Or.inl ⟨by rfl, by intro w; go_simp⟩) ?_
        try simp only [List.getElem_toArray, List.getElem_cons_succ, List.getElem_cons_zero, Act.put, List.setIfInBounds_toArray, List.set_cons_zero, List.set_cons_succ]
        refine anyT_take [4, 5, 11, 12] (i := 3) (v := .pointer (some ⟨b, off + k * 3, none⟩)) rfl (by kernel_rfl) (by kernel_rfl) (by kernel_rfl) (fun _ _ _ h => h) (by kernel_rfl) (Or.inl ⟨by rfl, fun w' _ => by go_simp⟩) ⟨(HAT.out _ M.out.below).2.1, (HAT.out _ M.out.below).2.2⟩ ?_
        try simp only [List.getElem_toArray, List.getElem_cons_succ, List.getElem_cons_zero, Act.put, List.setIfInBounds_toArray, List.set_cons_zero, List.set_cons_succ]
        refine anyT_take [5, 11, 12] (i := 4) (v := .pointer (some ⟨b, off + k * 3 + 1, none⟩)) rfl (by kernel_rfl) (by kernel_rfl) (by kernel_rfl) (fun _ _ _ h => h) (by kernel_rfl) (Or.inl ⟨by rfl, fun w' _ => by go_simp⟩) ⟨(HAT.out _ M.out.below).2.1, (HAT.out _ M.out.below).2.2⟩ ?_
        try simp only [List.getElem_toArray, List.getElem_cons_succ, List.getElem_cons_zero, Act.put, List.setIfInBounds_toArray, List.set_cons_zero, List.set_cons_succ]
        refine anyT_take [9, 10, 11, 12] (i := 8) (v := .pointer (some ⟨b, off + k * 3, none⟩)) rfl (by kernel_rfl) (by kernel_rfl) (by kernel_rfl) (fun _ _ _ h => h) (by kernel_rfl) (Or.inl ⟨by rfl, fun w' _ => by go_simp⟩) ⟨(HAT.out _ M.out.below).2.1, (HAT.out _ M.out.below).2.2⟩ ?_
        try simp only [List.getElem_toArray, List.getElem_cons_succ, List.getElem_cons_zero, Act.put, List.setIfInBounds_toArray, List.set_cons_zero, List.set_cons_succ]
        refine anyT_take [10, 11, 12] (i := 9) (v := .pointer (some ⟨b, off + k * 3 + 2, none⟩)) rfl (by kernel_rfl) (by kernel_rfl) (by kernel_rfl) (fun _ _ _ h => h) (by kernel_rfl) (Or.inl ⟨by rfl, fun w' _ => by go_simp⟩) ⟨(HAT.out _ M.out.below).2.1, (HAT.out _ M.out.below).2.2⟩ ?_
        try simp only [List.getElem_toArray, List.getElem_cons_succ, List.getElem_cons_zero, Act.put, List.setIfInBounds_toArray, List.set_cons_zero, List.set_cons_succ]
        refine anyT_take [11, 12] (i := 5) (v := .string key) rfl (by kernel_rfl) (by kernel_rfl) (by kernel_rfl) (fun _ _ _ h => h) (by kernel_rfl) (Or.inl ⟨by rfl, fun w' hS => by have c := hS.1; go_simp⟩) ⟨(HAT.out _ M.out.below).2.1, (HAT.out _ M.out.below).2.2⟩ ?_
        try simp only [List.getElem_toArray, List.getElem_cons_succ, List.getElem_cons_zero, Act.put, List.setIfInBounds_toArray, List.set_cons_zero, List.set_cons_succ]
        refine anyT_take [11, 12] (i := 10) (v := .string val) rfl (by kernel_rfl) (by kernel_rfl) (by kernel_rfl) (fun _ _ _ h => h) (by kernel_rfl) (Or.inl ⟨by rfl, fun w' hS => by have c := hS.2; go_simp⟩) ⟨(HAT.out _ M.out.below).2.1, (HAT.out _ M.out.below).2.2⟩ ?_
        try simp only [List.getElem_toArray, List.getElem_cons_succ, List.getElem_cons_zero, Act.put, List.setIfInBounds_toArray, List.set_cons_zero, List.set_cons_succ]
        refine anyT_one (i := 11) (by kernel_rfl) rfl (fun K hK => ?_)
        rw [if_pos (by rfl)]
        try simp only [List.getElem_toArray, List.getElem_cons_succ, List.getElem_cons_zero]
        (go_simp; refine (set_any u4 t key val _ (HE.out.below M.out.below HE.out.lt) M.out.tree HSZ.out (by have := HTB.out; omega)).mono ?_; rintro e w6 ⟨g6, rfl, ht, hb⟩; replace M := Lib.hid (M.out.turn hb (TreeAt.toO ht)); clear ht hb)
        refine hK _ _ (not_mem rfl) ?_
        clear hK K
        try simp only [List.getElem_toArray, List.getElem_cons_succ, List.getElem_cons_zero, Act.put, List.setIfInBounds_toArray, List.set_cons_zero, List.set_cons_succ]
        refine anyT_takeY (i := 12) (v := .pointer (some ⟨g6, 0, none⟩)) rfl (by kernel_rfl) (by kernel_rfl) (by kernel_rfl) (fun _ _ _ h => h) (by kernel_rfl) (Or.inl ⟨by rfl, by intro w; go_simp⟩) ?_
        try simp only [List.getElem_toArray, List.getElem_cons_succ, List.getElem_cons_zero, Act.put, List.setIfInBounds_toArray, List.set_cons_zero, List.set_cons_succ]
        refine anyT_done (by kernel_rfl) ?_ _
        go_upto_region 10 with (fail)
        refine wp_region_T (fun w' => w'.rangeAt (w.heap.size + 1) 0 cs.toList ∧ w'.cell? ⟨b, off + k * 3 + 1, none⟩ = some (.string key) ∧ w'.cell? ⟨b, off + k * 3 + 2, none⟩ = some (.string val)) [0, 3, 4, 5, 8, 9, 10] (by kernel_rfl) ?_
        replace M := Lib.hid (M.out.call (Below.refl _ _).drew)
        generalize w6.drew = w6' at *
        refine anyT_takeY (i := 1) (v := .slice (some ⟨b, off, none⟩) ts.length cap) rfl (by kernel_rfl) (by kernel_rfl) (by kernel_rfl) (fun _ _ _ h => h) (by kernel_rfl) (Or.inl ⟨by rfl, by intro w; go_simp⟩) ?_
        try simp only [List.getElem_toArray, List.getElem_cons_succ, List.getElem_cons_zero, Act.put, List.setIfInBounds_toArray, List.set_cons_zero, List.set_cons_succ]
        refine anyT_takeY (i := 2) (v := .int .i64 (k : Int)) rfl (by kernel_rfl) (by kernel_rfl) (by kernel_rfl) (fun _ _ _ h => h) (by kernel_rfl) (Or.inl ⟨by rfl, by intro w; go_simp⟩) ?_
        try simp only [List.getElem_toArray, List.getElem_cons_succ, List.getElem_cons_zero, Act.put, List.setIfInBounds_toArray, List.set_cons_zero, List.set_cons_succ]
        refine anyT_takeY (i := 6) (v := .slice (some ⟨b, off, none⟩) ts.length cap) rfl (by kernel_rfl) (by kernel_rfl) (by kernel_rfl) (fun _ _ _ h => h) (by kernel_rfl) (Or.inl ⟨by rfl, by intro w; go_simp⟩) ?_
        try simp only [List.getElem_toArray, List.getElem_cons_succ, List.getElem_cons_zero, Act.put, List.setIfInBounds_toArray, List.set_cons_zero, List.set_cons_succ]
        refine anyT_takeY (i := 7) (v := .int .i64 (k : Int)) rfl (by kernel_rfl) (by kernel_rfl) (by kernel_rfl) (fun _ _ _ h => h) (by kernel_rfl) (Or.inl ⟨by rfl, by intro w; go_simp⟩) ?_
        try simp only [List.getElem_toArray, List.getElem_cons_succ, List.getElem_cons_zero, Act.put, List.setIfInBounds_toArray, List.set_cons_zero, List.set_cons_succ]
        refine anyT_take [4, 5, 11, 12] (i := 3) (v := .pointer (some ⟨b, off + k * 3, none⟩)) rfl (by kernel_rfl) (by kernel_rfl) (by kernel_rfl) (fun _ _ _ h => h) (by kernel_rfl) (Or.inl ⟨by rfl, fun w' _ => by go_simp⟩) ⟨range_of M.out.blk, (HAT.out _ M.out.below).2.1, (HAT.out _ M.out.below).2.2⟩ ?_
        try simp only [List.getElem_toArray, List.getElem_cons_succ, List.getElem_cons_zero, Act.put, List.setIfInBounds_toArray, List.set_cons_zero, List.set_cons_succ]
        refine anyT_take [5, 11, 12] (i := 4) (v := .pointer (some ⟨b, off + k * 3 + 1, none⟩)) rfl (by kernel_rfl) (by kernel_rfl) (by kernel_rfl) (fun _ _ _ h => h) (by kernel_rfl) (Or.inl ⟨by rfl, fun w' _ => by go_simp⟩) ⟨range_of M.out.blk, (HAT.out _ M.out.below).2.1, (HAT.out _ M.out.below).2.2⟩ ?_
        try simp only [List.getElem_toArray, List.getElem_cons_succ, List.getElem_cons_zero, Act.put, List.setIfInBounds_toArray, List.set_cons_zero, List.set_cons_succ]
        refine anyT_take [9, 10, 11, 12] (i := 8) (v := .pointer (some ⟨b, off + k * 3, none⟩)) rfl (by kernel_rfl) (by kernel_rfl) (by kernel_rfl) (fun _ _ _ h => h) (by kernel_rfl) (Or.inl ⟨by rfl, fun w' _ => by go_simp⟩) ⟨range_of M.out.blk, (HAT.out _ M.out.below).2.1, (HAT.out _ M.out.below).2.2⟩ ?_
        try simp only [List.getElem_toArray, List.getElem_cons_succ, List.getElem_cons_zero, Act.put, List.setIfInBounds_toArray, List.set_cons_zero, List.set_cons_succ]
        refine anyT_take [10, 11, 12] (i := 9) (v := .pointer (some ⟨b, off + k * 3 + 2, none⟩)) rfl (by kernel_rfl) (by kernel_rfl) (by kernel_rfl) (fun _ _ _ h => h) (by kernel_rfl) (Or.inl ⟨by rfl, fun w' _ => by go_simp⟩) ⟨range_of M.out.blk, (HAT.out _ M.out.below).2.1, (HAT.out _ M.out.below).2.2⟩ ?_
        try simp only [List.getElem_toArray, List.getElem_cons_succ, List.getElem_cons_zero, Act.put, List.setIfInBounds_toArray, List.set_cons_zero, List.set_cons_succ]
        refine anyT_take [11, 12] (i := 0) (v := .agg cs) rfl (by kernel_rfl) (by kernel_rfl) (by kernel_rfl) (fun _ _ _ h => h) (by kernel_rfl) (agg_mid (by rfl) 28 (.tmp 5) rfl (w.heap.size + 1) 0 rfl _ _ (fun _ h => h.1) Tryd.underlying28 rfl (by rw [csZ.out]; kernel_rfl)) ⟨range_of M.out.blk, (HAT.out _ M.out.below).2.1, (HAT.out _ M.out.below).2.2⟩ ?_
        try simp only [List.getElem_toArray, List.getElem_cons_succ, List.getElem_cons_zero, Act.put, List.setIfInBounds_toArray, List.set_cons_zero, List.set_cons_succ]
        refine anyT_take [11, 12] (i := 5) (v := .string key) rfl (by kernel_rfl) (by kernel_rfl) (by kernel_rfl) (fun _ _ _ h => h) (by kernel_rfl) (Or.inl ⟨by rfl, fun w' hS => by have c := hS.2.1; go_simp⟩) ⟨range_of M.out.blk, (HAT.out _ M.out.below).2.1, (HAT.out _ M.out.below).2.2⟩ ?_
        try simp only [List.getElem_toArray, List.getElem_cons_succ, List.getElem_cons_zero, Act.put, List.setIfInBounds_toArray, List.set_cons_zero, List.set_cons_succ]
        refine anyT_take [11, 12] (i := 10) (v := .string val) rfl (by kernel_rfl) (by kernel_rfl) (by kernel_rfl) (fun _ _ _ h => h) (by kernel_rfl) (Or.inl ⟨by rfl, fun w' hS => by have c := hS.2.2; go_simp⟩) ⟨range_of M.out.blk, (HAT.out _ M.out.below).2.1, (HAT.out _ M.out.below).2.2⟩ ?_
        try simp only [List.getElem_toArray, List.getElem_cons_succ, List.getElem_cons_zero, Act.put, List.setIfInBounds_toArray, List.set_cons_zero, List.set_cons_succ]
        refine anyT_one (i := 11) (by kernel_rfl) rfl (fun K hK => ?_)
        rw [if_pos (by rfl)]
        try simp only [List.getElem_toArray, List.getElem_cons_succ, List.getElem_cons_zero]
        (go_simp; refine (rset_any t cs key val _ M.out.ro (by have := HTB.out; omega)).mono ?_; rintro e w7 ⟨u, rfl, ht, hb⟩; have HRU := Lib.hid ht; have uZ := Lib.hid (RO.size ht); have uO := Lib.hid (RO.one ht); replace M := Lib.hid (M.out.call hb); clear ht hb)
        refine hK _ _ (not_mem rfl) ?_
        clear hK K
        try simp only [List.getElem_toArray, List.getElem_cons_succ, List.getElem_cons_zero, Act.put, List.setIfInBounds_toArray, List.set_cons_zero, List.set_cons_succ]
        refine anyT_one (i := 12) (by kernel_rfl) rfl (fun K hK => ?_)
        rw [if_pos (by rfl)]
        try simp only [List.getElem_toArray, List.getElem_cons_succ, List.getElem_cons_zero]
        (refine wp_store_row 28 (.tmp 5) (.tmp 64) rfl (w.heap.size + 1) u rfl rfl 28 _ M.out.blk (by rw [uZ.out]; kernel_rfl) (by rw [uZ.out, csZ.out]) uO.out ?_)
        refine hK _ _ (not_mem rfl) ?_
        clear hK K
        try simp only [List.getElem_toArray, List.getElem_cons_succ, List.getElem_cons_zero, Act.put, List.setIfInBounds_toArray, List.set_cons_zero, List.set_cons_succ]
        refine anyT_done (by kernel_rfl) ?_ _
        replace M := Lib.hid (M.out.put HRU.out)
        rw [rsetO_eq G.out.bal key val] at M
        generalize w7.setRow (w.heap.size + 1) u = w9 at *
        go_wp2_with (fail)
        go_roundw
        case rel => exact ⟨k + 1, u, _, by omega, by omega, by go_num, M, Lib.hid (G.out.set key val HSZ0.out)⟩
        case measure => simp [intOf]; omega
    · by_cases hlt1 : k < ts.length
      · obtain rfl : k = 60 := by omega
        replace G := Lib.hid (show GT N 60 t from G.out)
        go_upto_region 11 with (fail)
        refine wp_region_T (fun w' => w'.rangeAt (w.heap.size + 1) 0 cs.toList) [1] (by kernel_rfl) ?_
        replace M := Lib.hid (M.out.call (Below.refl _ _).drew)
        generalize wr.drew = w5 at *
        refine anyT_takeY (i := 0) (v := u4) rfl (by kernel_rfl) (by kernel_rfl) (by kernel_rfl) (fun _ _ _ h => h) (by kernel_rfl) (Or.inl ⟨by rfl, by intro w; go_simp⟩) ?_
        try simp only [List.getElem_toArray, List.getElem_cons_succ, List.getElem_cons_zero, Act.put, List.setIfInBounds_toArray, List.set_cons_zero, List.set_cons_succ]
        refine anyT_takeY (i := 2) (v := u4) rfl (by kernel_rfl) (by kernel_rfl) (by kernel_rfl) (fun _ _ _ h => h) (by kernel_rfl) (Or.inl ⟨by rfl, by intro w; go_simp⟩) ?_
        try simp only [List.getElem_toArray, List.getElem_cons_succ, List.getElem_cons_zero, Act.put, List.setIfInBounds_toArray, List.set_cons_zero, List.set_cons_succ]
        refine anyT_take [3] (i := 1) (v := .agg cs) rfl (by kernel_rfl) (by kernel_rfl) (by kernel_rfl) (fun _ _ _ h => h) (by kernel_rfl) (agg_mid (by rfl) 28 (.tmp 5) rfl (w.heap.size + 1) 0 rfl _ _ (fun _ h => h) Tryd.underlying28 rfl (by rw [csZ.out]; kernel_rfl)) (range_of M.out.blk) ?_
        try simp only [List.getElem_toArray, List.getElem_cons_succ, List.getElem_cons_zero, Act.put, List.setIfInBounds_toArray, List.set_cons_zero, List.set_cons_succ]
        refine anyT_one (i := 3) (by kernel_rfl) rfl (fun K hK => ?_)
        rw [if_pos (by rfl)]
        try simp only [List.getElem_toArray, List.getElem_cons_succ, List.getElem_cons_zero]
        (refine wp_store_row 28 (.tmp 3) (.tmp 66) rfl w.heap.size cs rfl rfl 28 _ M.out.res (by rw [csZ.out]; kernel_rfl) (by rw [csZ.out]; rfl) csO.out ?_)
        refine hK _ _ (not_mem rfl) ?_
        clear hK K
        try simp only [List.getElem_toArray, List.getElem_cons_succ, List.getElem_cons_zero, Act.put, List.setIfInBounds_toArray, List.set_cons_zero, List.set_cons_succ]
        refine anyT_done (by kernel_rfl) ?_ _
        go_wp2_with (fail)
        obtain ⟨e1, e2, e3, e4⟩ := M.out.done G.out
        refine bodyPost_ret (results_tmp_cell_row rfl _ _ w.heap.size 28 cs (0, 0) _ rfl e4 Tryd.underlying28 rfl (by rw [csZ.out]; kernel_rfl)) rfl ?_
        exact ⟨u4, cs, t, rfl, e1, e2, G.out, e3⟩
      · obtain rfl : k = ts.length := by omega
        replace G := Lib.hid (G.out.mono hk60)
        go_upto_region 11 with (fail)
        refine wp_region_T (fun w' => w'.rangeAt (w.heap.size + 1) 0 cs.toList) [1] (by kernel_rfl) ?_
        replace M := Lib.hid (M.out.call (Below.refl _ _).drew)
        generalize wr.drew = w5 at *
        refine anyT_takeY (i := 0) (v := u4) rfl (by kernel_rfl) (by kernel_rfl) (by kernel_rfl) (fun _ _ _ h => h) (by kernel_rfl) (Or.inl ⟨by rfl, by intro w; go_simp⟩) ?_
        try simp only [List.getElem_toArray, List.getElem_cons_succ, List.getElem_cons_zero, Act.put, List.setIfInBounds_toArray, List.set_cons_zero, List.set_cons_succ]
        refine anyT_takeY (i := 2) (v := u4) rfl (by kernel_rfl) (by kernel_rfl) (by kernel_rfl) (fun _ _ _ h => h) (by kernel_rfl) (Or.inl ⟨by rfl, by intro w; go_simp⟩) ?_
        try simp only [List.getElem_toArray, List.getElem_cons_succ, List.getElem_cons_zero, Act.put, List.setIfInBounds_toArray, List.set_cons_zero, List.set_cons_succ]
        refine anyT_take [3] (i := 1) (v := .agg cs) rfl (by kernel_rfl) (by kernel_rfl) (by kernel_rfl) (fun _ _ _ h => h) (by kernel_rfl) (agg_mid (by rfl) 28 (.tmp 5) rfl (w.heap.size + 1) 0 rfl _ _ (fun _ h => h) Tryd.underlying28 rfl (by rw [csZ.out]; kernel_rfl)) (range_of M.out.blk) ?_
        try simp only [List.getElem_toArray, List.getElem_cons_succ, List.getElem_cons_zero, Act.put, List.setIfInBounds_toArray, List.set_cons_zero, List.set_cons_succ]
        refine anyT_one (i := 3) (by kernel_rfl) rfl (fun K hK => ?_)
        rw [if_pos (by rfl)]
        try simp only [List.getElem_toArray, List.getElem_cons_succ, List.getElem_cons_zero]
        (refine wp_store_row 28 (.tmp 3) (.tmp 66) rfl w.heap.size cs rfl rfl 28 _ M.out.res (by rw [csZ.out]; kernel_rfl) (by rw [csZ.out]; rfl) csO.out ?_)
        refine hK _ _ (not_mem rfl) ?_
        clear hK K
        try simp only [List.getElem_toArray, List.getElem_cons_succ, List.getElem_cons_zero, Act.put, List.setIfInBounds_toArray, List.set_cons_zero, List.set_cons_succ]
        refine anyT_done (by kernel_rfl) ?_ _
        go_wp2_with (fail)
        obtain ⟨e1, e2, e3, e4⟩ := M.out.done G.out
        refine bodyPost_ret (results_tmp_cell_row rfl _ _ w.heap.size 28 cs (0, 0) _ rfl e4 Tryd.underlying28 rfl (by rw [csZ.out]; kernel_rfl)) rfl ?_
        exact ⟨u4, cs, t, rfl, e1, e2, G.out, e3⟩
end Go.Proofs.YtjocbpabbbdkcaaDoor

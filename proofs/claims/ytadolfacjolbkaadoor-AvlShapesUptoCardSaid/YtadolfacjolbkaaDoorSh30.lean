/- Part 30 of the proof. -/
import Derived.Deep.DeepCutAuto
import Derived.Test.YtadolfacjolbkaaDoorSh28
import Derived.Test.YtadolfacjolbkaaDoorSh29
namespace Go.Proofs.YtadolfacjolbkaaDoor
set_option linter.unusedVariables false
set_option linter.unusedSimpArgs false
open Go.RowKit
set_option maxRecDepth 100000
set_option linter.unusedSimpArgs false
set_option linter.unusedVariables false
theorem results_cell_tmp3_row {P : Program} {fn : Func} {p u v x : Tmp} {ty : TypeId} (h : fn.results = #[.cell p ty, .tmp u, .tmp v, .tmp x]) (tmps : Array Value) (w : World) (g : Nat) (t : TypeId) (cs : Array Value) (fr : Nat × Nat) (d : TypeDesc)
    (hp : tmps.getD p undef = .pointer (some ⟨g, 0, none⟩)) (hg : w.heap[g]? = some (.cells cs t fr))
    (hu : P.underlying ty = some d) (hd : (match d with | .struct _ | .array _ _ => true | _ => false) = true) (hi : (P.info? ty).map (·.size) = some cs.size) :
    (results fn tmps).run P w = .ok (.tuple #[.agg cs, tmps.getD u undef, tmps.getD v undef, tmps.getD x undef]) w := by
  have hp' : tmps[p]?.getD undef = .pointer (some ⟨g, 0, none⟩) := by simpa using hp
  simp [results, h, hp', asAddr, run_loadVar_row w g t ty cs fr d hg hu hd hi]
def RdNo (i k : Nat) (w : World) (e : Ending) (w' : World) : Prop := e = .returned (.tuple #[.agg zR, .int .i64 (i : Int), .int .i64 (k : Int), .bool false]) ∧ Below w.heap.size w w'
def RdYes (t : AvT) (i k : Nat) (w : World) (e : Ending) (w' : World) : Prop := ∃ cs, e = .returned (.tuple #[.agg cs, .int .i64 (i : Int), .int .i64 (k : Int), .bool true]) ∧ RT w' cs t ∧ Below w.heap.size w w'
/-- what lies in memory while read goes on: its result's cell, the two slices -/
structure RdM (w w' : World) (vs va : Value) (s : List Bool) (L : List KV) : Prop where
  below : Below w.heap.size w w'
  re : w'.heap[w.heap.size]? = some (.cells zR 29 (0, 0))
  sh : BlIn w' vs s
  kv : KVIn w' va L
theorem rdM_start {w : World} {vs va : Value} {s : List Bool} {L : List KV} (hs : BlIn w vs s) (ha : KVIn w va L) : RdM w (w.alloc (.cells zR 29)) vs va s L :=
  ⟨below_alloc _ _, heap_alloc_new _ _, hs.below (below_alloc _ _), ha.below (below_alloc _ _)⟩
theorem RdM.call {w w' w2 : World} {vs va : Value} {s : List Bool} {L : List KV} (m : RdM w w' vs va s L) (h : Below w'.heap.size w' w2) : RdM w w2 vs va s L :=
  ⟨m.below.trans (h.mono m.below.size), (h.block _ (Array.getElem?_eq_some_iff.1 m.re).1).trans m.re, m.sh.below h, m.kv.below h⟩
theorem RdM.done {w w' : World} {vs va : Value} {s : List Bool} {L : List KV} (m : RdM w w' vs va s L) (cs : Array Value) : Below w.heap.size w (w'.setRow w.heap.size cs) ∧ (w'.setRow w.heap.size cs).heap[w.heap.size]? = some (.cells cs 29 (0, 0)) :=
  ⟨below_setRow m.below (Nat.le_refl _) _, setRow_heap _ _ _ _ _ _ m.re⟩
set_option maxHeartbeats 1000000 in
theorem read_end (vs va : Value) (s : List Bool) (L : List KV) (i k : Nat) (w : World) (hs : BlIn w vs s) (ha : KVIn w va L) (h : s.length ≤ i ∨ L.length ≤ k) (hi : i ≤ s.length) (hk : k ≤ L.length) : Calls Tryd.prog 38 #[vs, va, .int .i64 (i : Int), .int .i64 (k : Int)] w (RdNo i k w) := by
  have M := Lib.hid (rdM_start hs ha)
  obtain ⟨sa, sc, rfl⟩ := hs.len
  obtain ⟨aa, ac, rfl⟩ := ha.len
  have hsl : s.length ≤ maxLen := by obtain ⟨_, _, _, _, hm, _⟩ := hs; exact hm
  have hll : L.length ≤ maxLen := by obtain ⟨_, _, _, _, hm, _⟩ := ha; exact hm
  unfold maxLen at hsl hll
  clear hs ha
  unfold RdNo
  by_cases h1 : s.length ≤ i
  · have hI : (s.length : Int) ≤ (i : Int) := by omega
    clear h
    go_enter Tryd.func38, Tryd.ntmps38
    go_upto_region 1 with (fail)
    have e0 : w.alloc (.cells #[.bool false, .string { data := #[] }, .string { data := #[] }, .slice none 0 0] 29) = w.alloc (.cells zR 29) := rfl
    rw [e0]
    clear e0
    generalize w.alloc (.cells zR 29) = w1 at *
    go_wp2_with (refine wpList_store_row rfl 29 (.tmp 8) (.tmp 30) rfl w.heap.size zR rfl rfl 29 _ M.out.re (by kernel_rfl) rfl (by simp [zR, Value.oneCell']) ?_)
    obtain ⟨e1, e2⟩ := M.out.done zR
    refine bodyPost_ret (results_cell_tmp3_row rfl _ _ w.heap.size 29 zR (0, 0) _ rfl e2 Tryd.underlying29 rfl (by kernel_rfl)) rfl ?_
    exact ⟨rfl, e1⟩
  · have hI : ¬ (s.length : Int) ≤ (i : Int) := by omega
    have hI2 : (L.length : Int) ≤ (k : Int) := by omega
    clear h
    go_enter Tryd.func38, Tryd.ntmps38
    go_upto_region 1 with (fail)
    have e0 : w.alloc (.cells #[.bool false, .string { data := #[] }, .string { data := #[] }, .slice none 0 0] 29) = w.alloc (.cells zR 29) := rfl
    rw [e0]
    clear e0
    generalize w.alloc (.cells zR 29) = w1 at *
    go_wp2_with (refine wpList_store_row rfl 29 (.tmp 8) (.tmp 30) rfl w.heap.size zR rfl rfl 29 _ M.out.re (by kernel_rfl) rfl (by simp [zR, Value.oneCell']) ?_)
    obtain ⟨e1, e2⟩ := M.out.done zR
    refine bodyPost_ret (results_cell_tmp3_row rfl _ _ w.heap.size 29 zR (0, 0) _ rfl e2 Tryd.underlying29 rfl (by kernel_rfl)) rfl ?_
    exact ⟨rfl, e1⟩
set_option maxHeartbeats 2000000 in
theorem read_leaf (vs va : Value) (s : List Bool) (L : List KV) (i k : Nat) (w : World) (hs : BlIn w vs s) (ha : KVIn w va L) (hbit : s[i]? = some false) (q : KV) (hq : L[k]? = some q) : Calls Tryd.prog 38 #[vs, va, .int .i64 (i : Int), .int .i64 (k : Int)] w (RdYes (.leaf q.1 q.2) (i + 1) (k + 1) w) := by
  have hi : i < s.length := (List.getElem?_eq_some_iff.1 hbit).1
  have hk : k < L.length := (List.getElem?_eq_some_iff.1 hq).1
  have M := Lib.hid (rdM_start hs ha)
  obtain ⟨sa, sc, rfl⟩ := hs.len
  obtain ⟨aa, ac, rfl⟩ := ha.len
  have hsl : s.length ≤ maxLen := by obtain ⟨_, _, _, _, hm, _⟩ := hs; exact hm
  have hll : L.length ≤ maxLen := by obtain ⟨_, _, _, _, hm, _⟩ := ha; exact hm
  unfold maxLen at hsl hll
  have hI : ¬ (s.length : Int) ≤ (i : Int) := by omega
  have hI2 : ¬ (L.length : Int) ≤ (k : Int) := by omega
  have hI3 : (i : Int) < (s.length : Int) := by omega
  have hI4 : (k : Int) < (L.length : Int) := by omega
  have hw1 : IntKind.i64.wrap ((i : Int) + 1) = (i : Int) + 1 := IntWalk.i64_in _ (by omega)
  have hw2 : IntKind.i64.wrap ((k : Int) + 1) = (k : Int) + 1 := IntWalk.i64_in _ (by omega)
  obtain ⟨sb, so, rfl, hsb, hsc⟩ := hs.at i _ hbit
  obtain ⟨ab, ao, rfl, hab, p0, p1⟩ := ha.at k q hq
  have hlt1 : w.heap.size < (w.alloc (.cells zR 29)).heap.size := by simp
  have HLT := Lib.hid hab
  have HKV := Lib.hid (And.intro p0 p1)
  have HQ := Lib.hid hq
  clear ha hs p0 p1 hq hbit
  unfold RdYes
  go_enter Tryd.func38, Tryd.ntmps38
  go_upto_region 1 with (fail)
  have e0 : w.alloc (.cells #[.bool false, .string { data := #[] }, .string { data := #[] }, .slice none 0 0] 29) = w.alloc (.cells zR 29) := rfl
  rw [e0]
  clear e0
  generalize w.alloc (.cells zR 29) = w1 at *
  have c0 : w1.cell? ⟨sb, so + i, none⟩ = some (.bool false) := (M.out.below.cell (p := ⟨sb, so + i, none⟩) hsb).trans hsc
  go_upto_region 4 with (fail)
  clear c0
  refine wp_region_T (fun w' => w'.cell? ⟨ab, ao + k * 2, none⟩ = some (.string q.1) ∧ w'.cell? ⟨ab, ao + k * 2 + 1, none⟩ = some (.string q.2)) [4, 9, 10, 7, 8] (by kernel_rfl) ?_
  replace M := Lib.hid (M.out.call (Below.refl _ _).drew)
  generalize w1.drew = w2 at *
  have HS := Lib.hid (show w2.cell? ⟨ab, ao + k * 2, none⟩ = some (.string q.1) ∧ w2.cell? ⟨ab, ao + k * 2 + 1, none⟩ = some (.string q.2) from ⟨(M.out.below.cell (p := ⟨ab, ao + k * 2, none⟩) HLT.out).trans HKV.out.1, (M.out.below.cell (p := ⟨ab, ao + k * 2 + 1, none⟩) HLT.out).trans HKV.out.2⟩)
  refine anyT_takeY (i := 0) (v := .slice (some ⟨ab, ao, none⟩) L.length ac) rfl (by kernel_rfl) (by kernel_rfl) (by kernel_rfl) (fun _ _ _ h => h) (by kernel_rfl) (Or.inl ⟨by rfl, by intro w; go_simp⟩) ?_
  try simp only [List.getElem_toArray, List.getElem_cons_succ, List.getElem_cons_zero, Act.put, List.setIfInBounds_toArray, List.set_cons_zero, List.set_cons_succ]
  refine anyT_takeY (i := 1) (v := .int .i64 (k : Int)) rfl (by kernel_rfl) (by kernel_rfl) (by kernel_rfl) (fun _ _ _ h => h) (by kernel_rfl) (Or.inl ⟨by rfl, by intro w; go_simp⟩) ?_
  try simp only [List.getElem_toArray, List.getElem_cons_succ, List.getElem_cons_zero, Act.put, List.setIfInBounds_toArray, List.set_cons_zero, List.set_cons_succ]
  refine anyT_takeY (i := 5) (v := .slice (some ⟨ab, ao, none⟩) L.length ac) rfl (by kernel_rfl) (by kernel_rfl) (by kernel_rfl) (fun _ _ _ h => h) (by kernel_rfl) (Or.inl ⟨by rfl, by intro w; go_simp⟩) ?_
  try simp only [List.getElem_toArray, List.getElem_cons_succ, List.getElem_cons_zero, Act.put, List.setIfInBounds_toArray, List.set_cons_zero, List.set_cons_succ]
  refine anyT_takeY (i := 6) (v := .int .i64 (k : Int)) rfl (by kernel_rfl) (by kernel_rfl) (by kernel_rfl) (fun _ _ _ h => h) (by kernel_rfl) (Or.inl ⟨by rfl, by intro w; go_simp⟩) ?_
  try simp only [List.getElem_toArray, List.getElem_cons_succ, List.getElem_cons_zero, Act.put, List.setIfInBounds_toArray, List.set_cons_zero, List.set_cons_succ]
  refine anyT_takeY (i := 11) (v := .int .i64 (i : Int)) rfl (by kernel_rfl) (by kernel_rfl) (by kernel_rfl) (fun _ _ _ h => h) (by kernel_rfl) (Or.inl ⟨by rfl, by intro w; go_simp⟩) ?_
  try simp only [List.getElem_toArray, List.getElem_cons_succ, List.getElem_cons_zero, Act.put, List.setIfInBounds_toArray, List.set_cons_zero, List.set_cons_succ]
  refine anyT_takeY (i := 12) (v := .int .i64 ((i : Int) + 1)) rfl (by kernel_rfl) (by kernel_rfl) (by kernel_rfl) (fun _ _ _ h => h) (by kernel_rfl) (Or.inl ⟨by rfl, by intro w; go_simp⟩) ?_
  try simp only [List.getElem_toArray, List.getElem_cons_succ, List.getElem_cons_zero, Act.put, List.setIfInBounds_toArray, List.set_cons_zero, List.set_cons_succ]
  refine anyT_takeY (i := 13) (v := .int .i64 (k : Int)) rfl (by kernel_rfl) (by kernel_rfl) (by kernel_rfl) (fun _ _ _ h => h) (by kernel_rfl) (Or.inl ⟨by rfl, by intro w; go_simp⟩) ?_
  try simp only [List.getElem_toArray, List.getElem_cons_succ, List.getElem_cons_zero, Act.put, List.setIfInBounds_toArray, List.set_cons_zero, List.set_cons_succ]
  refine anyT_takeY (i := 14) (v := .int .i64 ((k : Int) + 1)) rfl (by kernel_rfl) (by kernel_rfl) (by kernel_rfl) (fun _ _ _ h => h) (by kernel_rfl) (Or.inl ⟨by rfl, by intro w; go_simp⟩) ?_
  try simp only [List.getElem_toArray, List.getElem_cons_succ, List.getElem_cons_zero, Act.put, List.setIfInBounds_toArray, List.set_cons_zero, List.set_cons_succ]
  refine anyT_takeY (i := 2) (v := .pointer (some ⟨ab, ao + k * 2, none⟩)) rfl (by kernel_rfl) (by kernel_rfl) (by kernel_rfl) (fun _ _ _ h => h) (by kernel_rfl) (Or.inl ⟨by rfl, by intro w; go_simp⟩) ?_
  try simp only [List.getElem_toArray, List.getElem_cons_succ, List.getElem_cons_zero, Act.put, List.setIfInBounds_toArray, List.set_cons_zero, List.set_cons_succ]
  refine anyT_takeY (i := 3) (v := .pointer (some ⟨ab, ao + k * 2, none⟩)) rfl (by kernel_rfl) (by kernel_rfl) (by kernel_rfl) (fun _ _ _ h => h) (by kernel_rfl) (Or.inl ⟨by rfl, by intro w; go_simp⟩) ?_
  try simp only [List.getElem_toArray, List.getElem_cons_succ, List.getElem_cons_zero, Act.put, List.setIfInBounds_toArray, List.set_cons_zero, List.set_cons_succ]
  refine anyT_take [10, 15, 16, 17, 18] (i := 4) (v := .string q.1) rfl (by kernel_rfl) (by kernel_rfl) (by kernel_rfl) (fun _ _ _ h => h) (by kernel_rfl) (Or.inl ⟨by rfl, fun w' hS => by have c := hS.1; go_simp⟩) HS.out ?_
  try simp only [List.getElem_toArray, List.getElem_cons_succ, List.getElem_cons_zero, Act.put, List.setIfInBounds_toArray, List.set_cons_zero, List.set_cons_succ]
  refine anyT_take [8, 9, 10, 15, 16, 17, 18] (i := 7) (v := .pointer (some ⟨ab, ao + k * 2, none⟩)) rfl (by kernel_rfl) (by kernel_rfl) (by kernel_rfl) (fun _ _ _ h => h) (by kernel_rfl) (Or.inl ⟨by rfl, fun w' hS => by go_simp⟩) HS.out ?_
  try simp only [List.getElem_toArray, List.getElem_cons_succ, List.getElem_cons_zero, Act.put, List.setIfInBounds_toArray, List.set_cons_zero, List.set_cons_succ]
  refine anyT_take [9, 10, 15, 16, 17, 18] (i := 8) (v := .pointer (some ⟨ab, ao + k * 2 + 1, none⟩)) rfl (by kernel_rfl) (by kernel_rfl) (by kernel_rfl) (fun _ _ _ h => h) (by kernel_rfl) (Or.inl ⟨by rfl, fun w' hS => by go_simp⟩) HS.out ?_
  try simp only [List.getElem_toArray, List.getElem_cons_succ, List.getElem_cons_zero, Act.put, List.setIfInBounds_toArray, List.set_cons_zero, List.set_cons_succ]
  refine anyT_take [10, 15, 16, 17, 18] (i := 9) (v := .string q.2) rfl (by kernel_rfl) (by kernel_rfl) (by kernel_rfl) (fun _ _ _ h => h) (by kernel_rfl) (Or.inl ⟨by rfl, fun w' hS => by have c := hS.2; go_simp⟩) HS.out ?_
  try simp only [List.getElem_toArray, List.getElem_cons_succ, List.getElem_cons_zero, Act.put, List.setIfInBounds_toArray, List.set_cons_zero, List.set_cons_succ]
  refine anyT_one (i := 10) (by kernel_rfl) rfl (fun K hK => ?_)
  rw [if_pos (by rfl)]
  try simp only [List.getElem_toArray, List.getElem_cons_succ, List.getElem_cons_zero]
  (go_simp; refine (rleaf_any q.1 q.2 _).mono ?_; rintro e w3 ⟨u1, rfl, ht, hb⟩; have HRu1 := Lib.hid (show RT w3 u1 (.leaf q.1 q.2) from ht); have u1Z := Lib.hid (RO.size ht); have u1O := Lib.hid (RO.one ht); have HS3 := Lib.hid (show w3.cell? ⟨ab, ao + k * 2, none⟩ = some (.string q.1) ∧ w3.cell? ⟨ab, ao + k * 2 + 1, none⟩ = some (.string q.2) from ⟨(hb.cell (p := ⟨ab, ao + k * 2, none⟩) (World.block_lt_of_cell? w2 _ HS.out.1)).trans HS.out.1, (hb.cell (p := ⟨ab, ao + k * 2 + 1, none⟩) (World.block_lt_of_cell? w2 _ HS.out.2)).trans HS.out.2⟩); replace M := Lib.hid (M.out.call hb); clear ht hb)
  refine hK _ _ (fun _ => HS3.out) ?_
  clear hK K
  try simp only [List.getElem_toArray, List.getElem_cons_succ, List.getElem_cons_zero, Act.put, List.setIfInBounds_toArray, List.set_cons_zero, List.set_cons_succ]
  refine anyT_one (i := 15) (by kernel_rfl) rfl (fun K hK => ?_)
  rw [if_pos (by rfl)]
  try simp only [List.getElem_toArray, List.getElem_cons_succ, List.getElem_cons_zero]
  (refine wp_store_row 29 (.tmp 8) (.tmp 48) rfl w.heap.size u1 rfl rfl 29 _ M.out.re (by rw [u1Z.out]; kernel_rfl) (by rw [u1Z.out]; rfl) u1O.out ?_)
  refine hK _ _ (not_mem rfl) ?_
  clear hK K
  try simp only [List.getElem_toArray, List.getElem_cons_succ, List.getElem_cons_zero, Act.put, List.setIfInBounds_toArray, List.set_cons_zero, List.set_cons_succ]
  refine anyT_takeY (i := 16) (v := .int .i64 ((i : Int) + 1)) rfl (by kernel_rfl) (by kernel_rfl) (by kernel_rfl) (fun _ _ _ h => h) (by kernel_rfl) (Or.inl ⟨by rfl, by intro w; go_simp⟩) ?_
  try simp only [List.getElem_toArray, List.getElem_cons_succ, List.getElem_cons_zero, Act.put, List.setIfInBounds_toArray, List.set_cons_zero, List.set_cons_succ]
  refine anyT_takeY (i := 17) (v := .int .i64 ((k : Int) + 1)) rfl (by kernel_rfl) (by kernel_rfl) (by kernel_rfl) (fun _ _ _ h => h) (by kernel_rfl) (Or.inl ⟨by rfl, by intro w; go_simp⟩) ?_
  try simp only [List.getElem_toArray, List.getElem_cons_succ, List.getElem_cons_zero, Act.put, List.setIfInBounds_toArray, List.set_cons_zero, List.set_cons_succ]
  refine anyT_takeY (i := 18) (v := .bool true) rfl (by kernel_rfl) (by kernel_rfl) (by kernel_rfl) (fun _ _ _ h => h) (by kernel_rfl) (Or.inl ⟨by rfl, by intro w; go_simp⟩) ?_
  try simp only [List.getElem_toArray, List.getElem_cons_succ, List.getElem_cons_zero, Act.put, List.setIfInBounds_toArray, List.set_cons_zero, List.set_cons_succ]
  refine anyT_done (by kernel_rfl) ?_ _
  go_wp2_with (fail)
  obtain ⟨e1, e2⟩ := M.out.done u1
  refine bodyPost_ret (results_cell_tmp3_row rfl _ _ w.heap.size 29 u1 (0, 0) _ rfl e2 Tryd.underlying29 rfl (by rw [u1Z.out]; kernel_rfl)) rfl ?_
  exact ⟨u1, rfl, HRu1.out.setRow M.out.re rfl, e1⟩
structure RdX (w w' : World) (vs va : Value) (s : List Bool) (L : List KV) (g : Nat) (ca : Array Value) (ta : AvT) : Prop where
  m : RdM w w' vs va s L
  h : w'.heap[g]? = some (.cells ca 29 (0, 0))
  r : RT w' ca ta
  n : g ≠ w.heap.size
theorem RdX.call {w w' w2 : World} {vs va : Value} {s : List Bool} {L : List KV} {g : Nat} {ca : Array Value} {ta : AvT} (x : RdX w w' vs va s L g ca ta) (h : Below w'.heap.size w' w2) : RdX w w2 vs va s L g ca ta :=
  ⟨x.m.call h, (h.block _ (Array.getElem?_eq_some_iff.1 x.h).1).trans x.h, x.r.below h, x.n⟩
theorem RdX.of {w w' : World} {vs va : Value} {s : List Bool} {L : List KV} {ca : Array Value} {ta : AvT} (m : RdM w w' vs va s L) (r : RT w' ca ta) : RdX w (w'.alloc (.cells ca 29)) vs va s L w'.heap.size ca ta :=
  ⟨m.call (below_alloc _ _), heap_alloc_new _ _, r.below (below_alloc _ _), fun e => by have := (Array.getElem?_eq_some_iff.1 m.re).1; omega⟩
set_option maxHeartbeats 4000000 in
theorem read_na (vs va : Value) (s : List Bool) (L : List KV) (i k : Nat) (w : World) (hs : BlIn w vs s) (ha : KVIn w va L) (hbit : s[i]? = some true) (hk : k < L.length) (hia : ∀ w', BlIn w' vs s → KVIn w' va L → Calls Tryd.prog 38 #[vs, va, .int .i64 ((i : Int) + 1), .int .i64 (k : Int)] w' (RdNo (i + 1) k w')) : Calls Tryd.prog 38 #[vs, va, .int .i64 (i : Int), .int .i64 (k : Int)] w (RdNo i k w) := by
  have hi : i < s.length := (List.getElem?_eq_some_iff.1 hbit).1
  have M := Lib.hid (rdM_start hs ha)
  obtain ⟨sa, sc, rfl⟩ := hs.len
  obtain ⟨aa, ac, rfl⟩ := ha.len
  have hsl : s.length ≤ maxLen := by obtain ⟨_, _, _, _, hm, _⟩ := hs; exact hm
  have hll : L.length ≤ maxLen := by obtain ⟨_, _, _, _, hm, _⟩ := ha; exact hm
  unfold maxLen at hsl hll
  have hI : ¬ (s.length : Int) ≤ (i : Int) := by omega
  have hI2 : ¬ (L.length : Int) ≤ (k : Int) := by omega
  have hI3 : (i : Int) < (s.length : Int) := by omega
  have hI4 : (k : Int) < (L.length : Int) := by omega
  have hw1 : IntKind.i64.wrap ((i : Int) + 1) = (i : Int) + 1 := IntWalk.i64_in _ (by omega)
  have hw2 : IntKind.i64.wrap ((k : Int) + 1) = (k : Int) + 1 := IntWalk.i64_in _ (by omega)
  obtain ⟨sb, so, rfl, hsb, hsc⟩ := hs.at i _ hbit
  have HIA := Lib.hid hia
  clear ha hs hbit hia
  unfold RdNo at *
  go_enter Tryd.func38, Tryd.ntmps38
  go_upto_region 1 with (fail)
  have e0 : w.alloc (.cells #[.bool false, .string { data := #[] }, .string { data := #[] }, .slice none 0 0] 29) = w.alloc (.cells zR 29) := rfl
  rw [e0]
  clear e0
  generalize w.alloc (.cells zR 29) = w1 at *
  have c0 : w1.cell? ⟨sb, so + i, none⟩ = some (.bool true) := (M.out.below.cell (p := ⟨sb, so + i, none⟩) hsb).trans hsc
  go_upto_region 6 with (first
    | (go_at_call 38; (with_reducible refine (HIA.out _ M.out.sh M.out.kv).mono ?_); clear HIA; rintro e w2 ⟨rfl, hb⟩; replace M := Lib.hid (M.out.call hb); clear hb)
    | (refine wpList_store_row rfl 29 (.tmp 12) (.tmp 60) rfl w2.heap.size zR rfl rfl 29 _ (heap_alloc_new _ _) (by kernel_rfl) (by rfl) (by simp [zR, Value.oneCell']) ?_; rw [World.setRow_alloc_new]))
  clear c0
  replace M := Lib.hid (M.out.call (below_alloc w2 (.cells zR 29)))
  generalize w2.alloc (.cells zR 29) = w3 at *
  go_wp2_with (refine wpList_store_row rfl 29 (.tmp 8) (.tmp 66) rfl w.heap.size zR rfl rfl 29 _ M.out.re (by kernel_rfl) rfl (by simp [zR, Value.oneCell']) ?_)
  obtain ⟨e1, e2⟩ := M.out.done zR
  refine bodyPost_ret (results_cell_tmp3_row rfl _ _ w.heap.size 29 zR (0, 0) _ rfl e2 Tryd.underlying29 rfl (by kernel_rfl)) rfl ?_
  exact ⟨rfl, e1⟩
set_option maxHeartbeats 4000000 in
theorem read_nb (vs va : Value) (s : List Bool) (L : List KV) (i k : Nat) (w : World) (hs : BlIn w vs s) (ha : KVIn w va L) (hbit : s[i]? = some true) (hk : k < L.length) (ta : AvT) (i1 k1 : Nat) (hia : ∀ w', BlIn w' vs s → KVIn w' va L → Calls Tryd.prog 38 #[vs, va, .int .i64 ((i : Int) + 1), .int .i64 (k : Int)] w' (RdYes ta i1 k1 w')) (hib : ∀ w', BlIn w' vs s → KVIn w' va L → Calls Tryd.prog 38 #[vs, va, .int .i64 (i1 : Int), .int .i64 (k1 : Int)] w' (RdNo i1 k1 w')) : Calls Tryd.prog 38 #[vs, va, .int .i64 (i : Int), .int .i64 (k : Int)] w (RdNo i k w) := by
  have hi : i < s.length := (List.getElem?_eq_some_iff.1 hbit).1
  have M := Lib.hid (rdM_start hs ha)
  obtain ⟨sa, sc, rfl⟩ := hs.len
  obtain ⟨aa, ac, rfl⟩ := ha.len
  have hsl : s.length ≤ maxLen := by obtain ⟨_, _, _, _, hm, _⟩ := hs; exact hm
  have hll : L.length ≤ maxLen := by obtain ⟨_, _, _, _, hm, _⟩ := ha; exact hm
  unfold maxLen at hsl hll
  have hI : ¬ (s.length : Int) ≤ (i : Int) := by omega
  have hI2 : ¬ (L.length : Int) ≤ (k : Int) := by omega
  have hI3 : (i : Int) < (s.length : Int) := by omega
  have hI4 : (k : Int) < (L.length : Int) := by omega
  have hw1 : IntKind.i64.wrap ((i : Int) + 1) = (i : Int) + 1 := IntWalk.i64_in _ (by omega)
  have hw2 : IntKind.i64.wrap ((k : Int) + 1) = (k : Int) + 1 := IntWalk.i64_in _ (by omega)
  obtain ⟨sb, so, rfl, hsb, hsc⟩ := hs.at i _ hbit
  have HIA := Lib.hid hia
  have HIB := Lib.hid hib
  clear hib
  clear ha hs hbit hia
  unfold RdYes at HIA
  unfold RdNo at *
  go_enter Tryd.func38, Tryd.ntmps38
  go_upto_region 1 with (fail)
  have e0 : w.alloc (.cells #[.bool false, .string { data := #[] }, .string { data := #[] }, .slice none 0 0] 29) = w.alloc (.cells zR 29) := rfl
  rw [e0]
  clear e0
  generalize w.alloc (.cells zR 29) = w1 at *
  have c0 : w1.cell? ⟨sb, so + i, none⟩ = some (.bool true) := (M.out.below.cell (p := ⟨sb, so + i, none⟩) hsb).trans hsc
  go_upto_region 6 with (first
    | (go_at_call 38; (with_reducible refine (HIA.out _ M.out.sh M.out.kv).mono ?_); clear HIA; rintro e w2 ⟨ca, rfl, hr, hb⟩; have HRA := Lib.hid hr; have caZ := Lib.hid hr.size; have caO := Lib.hid (RO.one (t := some ta) hr); replace M := Lib.hid (M.out.call hb); clear hr hb)
    | (refine wpList_store_row rfl 29 (.tmp 12) (.tmp 60) rfl w2.heap.size ca rfl rfl 29 _ (heap_alloc_new _ _) (by rw [caZ.out]; kernel_rfl) (by rw [caZ.out]; rfl) (caO.out) ?_; rw [World.setRow_alloc_new]))
  clear c0
  have X := Lib.hid (RdX.of M.out HRA.out)
  obtain ⟨g12, hg12⟩ : ∃ g, g = w2.heap.size := ⟨_, rfl⟩
  rw [← hg12] at X ⊢
  clear M HRA hg12
  generalize w2.alloc (.cells ca 29) = w3 at *
  go_upto_region 9 with (first
    | (go_at_call 38; (with_reducible refine (HIB.out _ X.out.m.sh X.out.m.kv).mono ?_); clear HIB; rintro e w4 ⟨rfl, hb⟩; replace X := Lib.hid (X.out.call hb); clear hb)
    | (refine wpList_store_row rfl 29 (.tmp 16) (.tmp 75) rfl w4.heap.size zR rfl rfl 29 _ (heap_alloc_new _ _) (by kernel_rfl) (by rfl) (by simp [zR, Value.oneCell']) ?_; rw [World.setRow_alloc_new]))
  have M := Lib.hid (X.out.m.call (below_alloc w4 (.cells zR 29)))
  clear X
  generalize w4.alloc (.cells zR 29) = w5 at *
  refine wp_region_T (fun _ => True) [] (by kernel_rfl) ?_
  replace M := Lib.hid (M.out.call (Below.refl _ _).drew)
  generalize w5.drew = w6 at *
  refine anyT_takeY (i := 0) (v := .bool false) rfl (by kernel_rfl) (by kernel_rfl) (by kernel_rfl) (fun _ _ _ h => h) (by kernel_rfl) (Or.inl ⟨by rfl, by intro w; go_simp⟩) ?_
  try simp only [List.getElem_toArray, List.getElem_cons_succ, List.getElem_cons_zero, Act.put, List.setIfInBounds_toArray, List.set_cons_zero, List.set_cons_succ]
  refine anyT_takeY (i := 1) (v := .bool true) rfl (by kernel_rfl) (by kernel_rfl) (by kernel_rfl) (fun _ _ _ h => h) (by kernel_rfl) (Or.inl ⟨by rfl, by intro w; go_simp⟩) ?_
  try simp only [List.getElem_toArray, List.getElem_cons_succ, List.getElem_cons_zero, Act.put, List.setIfInBounds_toArray, List.set_cons_zero, List.set_cons_succ]
  refine anyT_takeY (i := 2) (v := .bool true) rfl (by kernel_rfl) (by kernel_rfl) (by kernel_rfl) (fun _ _ _ h => h) (by kernel_rfl) (Or.inl ⟨by rfl, by intro w; go_simp⟩) ?_
  try simp only [List.getElem_toArray, List.getElem_cons_succ, List.getElem_cons_zero, Act.put, List.setIfInBounds_toArray, List.set_cons_zero, List.set_cons_succ]
  refine anyT_takeY (i := 3) (v := undef) rfl (by kernel_rfl) (by kernel_rfl) (by kernel_rfl) (fun _ _ _ h => h) (by kernel_rfl) (Or.inr ⟨by rfl, rfl⟩) ?_
  try simp only [List.getElem_toArray, List.getElem_cons_succ, List.getElem_cons_zero, Act.put, List.setIfInBounds_toArray, List.set_cons_zero, List.set_cons_succ]
  refine anyT_takeY (i := 4) (v := undef) rfl (by kernel_rfl) (by kernel_rfl) (by kernel_rfl) (fun _ _ _ h => h) (by kernel_rfl) (Or.inr ⟨by rfl, rfl⟩) ?_
  try simp only [List.getElem_toArray, List.getElem_cons_succ, List.getElem_cons_zero, Act.put, List.setIfInBounds_toArray, List.set_cons_zero, List.set_cons_succ]
  refine anyT_takeY (i := 5) (v := undef) rfl (by kernel_rfl) (by kernel_rfl) (by kernel_rfl) (fun _ _ _ h => h) (by kernel_rfl) (Or.inr ⟨by rfl, rfl⟩) ?_
  try simp only [List.getElem_toArray, List.getElem_cons_succ, List.getElem_cons_zero, Act.put, List.setIfInBounds_toArray, List.set_cons_zero, List.set_cons_succ]
  refine anyT_takeY (i := 6) (v := undef) rfl (by kernel_rfl) (by kernel_rfl) (by kernel_rfl) (fun _ _ _ h => h) (by kernel_rfl) (Or.inr ⟨by rfl, rfl⟩) ?_
  try simp only [List.getElem_toArray, List.getElem_cons_succ, List.getElem_cons_zero, Act.put, List.setIfInBounds_toArray, List.set_cons_zero, List.set_cons_succ]
  refine anyT_takeY (i := 7) (v := undef) rfl (by kernel_rfl) (by kernel_rfl) (by kernel_rfl) (fun _ _ _ h => h) (by kernel_rfl) (Or.inr ⟨by rfl, rfl⟩) ?_
  try simp only [List.getElem_toArray, List.getElem_cons_succ, List.getElem_cons_zero, Act.put, List.setIfInBounds_toArray, List.set_cons_zero, List.set_cons_succ]
  refine anyT_takeY (i := 8) (v := undef) rfl (by kernel_rfl) (by kernel_rfl) (by kernel_rfl) (fun _ _ _ h => h) (by kernel_rfl) (Or.inr ⟨by rfl, rfl⟩) ?_
  try simp only [List.getElem_toArray, List.getElem_cons_succ, List.getElem_cons_zero, Act.put, List.setIfInBounds_toArray, List.set_cons_zero, List.set_cons_succ]
  refine anyT_takeY (i := 9) (v := .bool true) rfl (by kernel_rfl) (by kernel_rfl) (by kernel_rfl) (fun _ _ _ h => h) (by kernel_rfl) (Or.inl ⟨by rfl, by intro w; go_simp⟩) ?_
  try simp only [List.getElem_toArray, List.getElem_cons_succ, List.getElem_cons_zero, Act.put, List.setIfInBounds_toArray, List.set_cons_zero, List.set_cons_succ]
  refine anyT_takeY (i := 10) (v := .bool true) rfl (by kernel_rfl) (by kernel_rfl) (by kernel_rfl) (fun _ _ _ h => h) (by kernel_rfl) (Or.inl ⟨by rfl, by intro w; go_simp⟩) ?_
  try simp only [List.getElem_toArray, List.getElem_cons_succ, List.getElem_cons_zero, Act.put, List.setIfInBounds_toArray, List.set_cons_zero, List.set_cons_succ]
  refine anyT_takeY (i := 11) (v := undef) rfl (by kernel_rfl) (by kernel_rfl) (by kernel_rfl) (fun _ _ _ h => h) (by kernel_rfl) (Or.inr ⟨by rfl, rfl⟩) ?_
  try simp only [List.getElem_toArray, List.getElem_cons_succ, List.getElem_cons_zero, Act.put, List.setIfInBounds_toArray, List.set_cons_zero, List.set_cons_succ]
  refine anyT_takeY (i := 12) (v := undef) rfl (by kernel_rfl) (by kernel_rfl) (by kernel_rfl) (fun _ _ _ h => h) (by kernel_rfl) (Or.inr ⟨by rfl, rfl⟩) ?_
  try simp only [List.getElem_toArray, List.getElem_cons_succ, List.getElem_cons_zero, Act.put, List.setIfInBounds_toArray, List.set_cons_zero, List.set_cons_succ]
  refine anyT_takeY (i := 13) (v := undef) rfl (by kernel_rfl) (by kernel_rfl) (by kernel_rfl) (fun _ _ _ h => h) (by kernel_rfl) (Or.inr ⟨by rfl, rfl⟩) ?_
  try simp only [List.getElem_toArray, List.getElem_cons_succ, List.getElem_cons_zero, Act.put, List.setIfInBounds_toArray, List.set_cons_zero, List.set_cons_succ]
  refine anyT_takeY (i := 14) (v := undef) rfl (by kernel_rfl) (by kernel_rfl) (by kernel_rfl) (fun _ _ _ h => h) (by kernel_rfl) (Or.inr ⟨by rfl, rfl⟩) ?_
  try simp only [List.getElem_toArray, List.getElem_cons_succ, List.getElem_cons_zero, Act.put, List.setIfInBounds_toArray, List.set_cons_zero, List.set_cons_succ]
  refine anyT_takeY (i := 15) (v := undef) rfl (by kernel_rfl) (by kernel_rfl) (by kernel_rfl) (fun _ _ _ h => h) (by kernel_rfl) (Or.inr ⟨by rfl, rfl⟩) ?_
  try simp only [List.getElem_toArray, List.getElem_cons_succ, List.getElem_cons_zero, Act.put, List.setIfInBounds_toArray, List.set_cons_zero, List.set_cons_succ]
  refine anyT_takeY (i := 16) (v := undef) rfl (by kernel_rfl) (by kernel_rfl) (by kernel_rfl) (fun _ _ _ h => h) (by kernel_rfl) (Or.inr ⟨by rfl, rfl⟩) ?_
  try simp only [List.getElem_toArray, List.getElem_cons_succ, List.getElem_cons_zero, Act.put, List.setIfInBounds_toArray, List.set_cons_zero, List.set_cons_succ]
  refine anyT_takeY (i := 17) (v := .bool true) rfl (by kernel_rfl) (by kernel_rfl) (by kernel_rfl) (fun _ _ _ h => h) (by kernel_rfl) (Or.inl ⟨by rfl, by intro w; go_simp⟩) ?_
  try simp only [List.getElem_toArray, List.getElem_cons_succ, List.getElem_cons_zero, Act.put, List.setIfInBounds_toArray, List.set_cons_zero, List.set_cons_succ]
  refine anyT_done (by kernel_rfl) ?_ _
  go_wp2_with (refine wpList_store_row rfl 29 (.tmp 8) (.tmp 97) rfl w.heap.size zR rfl rfl 29 _ M.out.re (by kernel_rfl) rfl (by simp [zR, Value.oneCell']) ?_)
  obtain ⟨e1, e2⟩ := M.out.done zR
  refine bodyPost_ret (results_cell_tmp3_row rfl _ _ w.heap.size 29 zR (0, 0) _ rfl e2 Tryd.underlying29 rfl (by kernel_rfl)) rfl ?_
  exact ⟨rfl, e1⟩
set_option maxHeartbeats 4000000 in
theorem read_nu (vs va : Value) (s : List Bool) (L : List KV) (i k : Nat) (w : World) (hs : BlIn w vs s) (ha : KVIn w va L) (hbit : s[i]? = some true) (hk : k < L.length) (ta : AvT) (i1 k1 : Nat) (hia : ∀ w', BlIn w' vs s → KVIn w' va L → Calls Tryd.prog 38 #[vs, va, .int .i64 ((i : Int) + 1), .int .i64 (k : Int)] w' (RdYes ta i1 k1 w')) (tb : AvT) (i2 k2 : Nat) (hib : ∀ w', BlIn w' vs s → KVIn w' va L → Calls Tryd.prog 38 #[vs, va, .int .i64 (i1 : Int), .int .i64 (k1 : Int)] w' (RdYes tb i2 k2 w')) (hmt : ta.many ≤ 1099511627776 ∧ tb.many ≤ 1099511627776) (hnr : nearB ta tb = false) : Calls Tryd.prog 38 #[vs, va, .int .i64 (i : Int), .int .i64 (k : Int)] w (RdNo i k w) := by
  have hi : i < s.length := (List.getElem?_eq_some_iff.1 hbit).1
  have M := Lib.hid (rdM_start hs ha)
  obtain ⟨sa, sc, rfl⟩ := hs.len
  obtain ⟨aa, ac, rfl⟩ := ha.len
  have hsl : s.length ≤ maxLen := by obtain ⟨_, _, _, _, hm, _⟩ := hs; exact hm
  have hll : L.length ≤ maxLen := by obtain ⟨_, _, _, _, hm, _⟩ := ha; exact hm
  unfold maxLen at hsl hll
  have hI : ¬ (s.length : Int) ≤ (i : Int) := by omega
  have hI2 : ¬ (L.length : Int) ≤ (k : Int) := by omega
  have hI3 : (i : Int) < (s.length : Int) := by omega
  have hI4 : (k : Int) < (L.length : Int) := by omega
  have hw1 : IntKind.i64.wrap ((i : Int) + 1) = (i : Int) + 1 := IntWalk.i64_in _ (by omega)
  have hw2 : IntKind.i64.wrap ((k : Int) + 1) = (k : Int) + 1 := IntWalk.i64_in _ (by omega)
  obtain ⟨sb, so, rfl, hsb, hsc⟩ := hs.at i _ hbit
  have HIA := Lib.hid hia
  have HIB := Lib.hid hib
  clear hib
  clear ha hs hbit hia
  unfold RdYes at HIA HIB
  unfold RdNo at *
  go_enter Tryd.func38, Tryd.ntmps38
  go_upto_region 1 with (fail)
  have e0 : w.alloc (.cells #[.bool false, .string { data := #[] }, .string { data := #[] }, .slice none 0 0] 29) = w.alloc (.cells zR 29) := rfl
  rw [e0]
  clear e0
  generalize w.alloc (.cells zR 29) = w1 at *
  have c0 : w1.cell? ⟨sb, so + i, none⟩ = some (.bool true) := (M.out.below.cell (p := ⟨sb, so + i, none⟩) hsb).trans hsc
  go_upto_region 6 with (first
    | (go_at_call 38; (with_reducible refine (HIA.out _ M.out.sh M.out.kv).mono ?_); clear HIA; rintro e w2 ⟨ca, rfl, hr, hb⟩; have HRA := Lib.hid hr; have caZ := Lib.hid hr.size; have caO := Lib.hid (RO.one (t := some ta) hr); replace M := Lib.hid (M.out.call hb); clear hr hb)
    | (refine wpList_store_row rfl 29 (.tmp 12) (.tmp 60) rfl w2.heap.size ca rfl rfl 29 _ (heap_alloc_new _ _) (by rw [caZ.out]; kernel_rfl) (by rw [caZ.out]; rfl) (caO.out) ?_; rw [World.setRow_alloc_new]))
  clear c0
  have X := Lib.hid (RdX.of M.out HRA.out)
  obtain ⟨g12, hg12⟩ : ∃ g, g = w2.heap.size := ⟨_, rfl⟩
  rw [← hg12] at X ⊢
  clear M HRA hg12
  generalize w2.alloc (.cells ca 29) = w3 at *
  go_upto_region 9 with (first
    | (go_at_call 38; (with_reducible refine (HIB.out _ X.out.m.sh X.out.m.kv).mono ?_); clear HIB; rintro e w4 ⟨cb, rfl, hr, hb⟩; have HRB := Lib.hid hr; have cbZ := Lib.hid hr.size; have cbO := Lib.hid (RO.one (t := some tb) hr); replace X := Lib.hid (X.out.call hb); clear hr hb)
    | (refine wpList_store_row rfl 29 (.tmp 16) (.tmp 75) rfl w4.heap.size cb rfl rfl 29 _ (heap_alloc_new _ _) (by rw [cbZ.out]; kernel_rfl) (by rw [cbZ.out]; rfl) (cbO.out) ?_; rw [World.setRow_alloc_new]))
  have Y := Lib.hid (RdX.of X.out.m HRB.out)
  replace X := Lib.hid (X.out.call (below_alloc w4 (.cells cb 29)))
  obtain ⟨g16, hg16⟩ : ∃ g, g = w4.heap.size := ⟨_, rfl⟩
  rw [← hg16] at Y ⊢
  clear HRB hg16
  generalize w4.alloc (.cells cb 29) = w5 at *
  have HHA := Lib.hid (fun w h => rheight_some ta ca w h (by omega))
  have HHB := Lib.hid (fun w h => rheight_some tb cb w h (by omega))
  unfold HtPost at HHA HHB
  have hla := ta.height_le
  have hlb := tb.height_le
  obtain ⟨ha, hha⟩ : ∃ n, n = ta.height := ⟨_, rfl⟩
  obtain ⟨hb, hhb⟩ : ∃ n, n = tb.height := ⟨_, rfl⟩
  have HNR := Lib.hid (show nearB ta tb = (decide (ha ≤ hb + 1) && decide (hb ≤ ha + 1)) by rw [hha, hhb]; rfl)
  rw [← hha] at HHA hla
  rw [← hhb] at HHB hlb
  have hwa : IntKind.i64.wrap ((ha : Int) - (hb : Int)) = (ha : Int) - (hb : Int) := IntWalk.i64_in _ (by omega)
  have hwb : IntKind.i64.wrap ((hb : Int) - (ha : Int)) = (hb : Int) - (ha : Int) := IntWalk.i64_in _ (by omega)
  clear hha hhb hla hlb hmt
  rw [HNR.out] at hnr
  by_cases h1 : ha ≤ hb + 1
  · have h2 : ¬ hb ≤ ha + 1 := by
      intro h2; simp [h1, h2] at hnr
    have hd1 : ¬ (1 : Int) < (ha : Int) - (hb : Int) := by omega
    have hd2 : (1 : Int) < (hb : Int) - (ha : Int) := by omega
    clear hnr h1 h2
    refine wp_region_T (fun w' => w'.rangeAt g12 0 ca.toList ∧ w'.rangeAt g16 0 cb.toList) [3, 4, 5, 6, 11, 12, 13] (by kernel_rfl) ?_
    replace X := Lib.hid (X.out.call (Below.refl _ _).drew)
    replace Y := Lib.hid (Y.out.call (Below.refl _ _).drew)
    generalize w5.drew = w6 at *
    refine anyT_takeY (i := 0) (v := .bool true) rfl (by kernel_rfl) (by kernel_rfl) (by kernel_rfl) (fun _ _ _ h => h) (by kernel_rfl) (Or.inl ⟨by rfl, by intro w; go_simp⟩) ?_
    try simp only [List.getElem_toArray, List.getElem_cons_succ, List.getElem_cons_zero, Act.put, List.setIfInBounds_toArray, List.set_cons_zero, List.set_cons_succ]
    refine anyT_takeY (i := 1) (v := .bool false) rfl (by kernel_rfl) (by kernel_rfl) (by kernel_rfl) (fun _ _ _ h => h) (by kernel_rfl) (Or.inl ⟨by rfl, by intro w; go_simp⟩) ?_
    try simp only [List.getElem_toArray, List.getElem_cons_succ, List.getElem_cons_zero, Act.put, List.setIfInBounds_toArray, List.set_cons_zero, List.set_cons_succ]
    refine anyT_takeY (i := 2) (v := .bool false) rfl (by kernel_rfl) (by kernel_rfl) (by kernel_rfl) (fun _ _ _ h => h) (by kernel_rfl) (Or.inl ⟨by rfl, by intro w; go_simp⟩) ?_
    try simp only [List.getElem_toArray, List.getElem_cons_succ, List.getElem_cons_zero, Act.put, List.setIfInBounds_toArray, List.set_cons_zero, List.set_cons_succ]
    refine anyT_take [4, 6, 7, 8, 9, 10, 11, 12, 13, 14, 15, 16, 17] (i := 3) (v := .agg ca) rfl (by kernel_rfl) (by kernel_rfl) (by kernel_rfl) (fun _ _ _ h => h) (by kernel_rfl) (agg_mid (by rfl) 29 (.tmp 12) rfl g12 0 rfl _ _ (fun _ h => h.1) Tryd.underlying29 rfl (by rw [caZ.out]; kernel_rfl)) ⟨range_of X.out.h, range_of Y.out.h⟩ ?_
    try simp only [List.getElem_toArray, List.getElem_cons_succ, List.getElem_cons_zero, Act.put, List.setIfInBounds_toArray, List.set_cons_zero, List.set_cons_succ]
    refine anyT_take [6, 7, 8, 9, 10, 11, 12, 13, 14, 15, 16, 17] (i := 5) (v := .agg cb) rfl (by kernel_rfl) (by kernel_rfl) (by kernel_rfl) (fun _ _ _ h => h) (by kernel_rfl) (agg_mid (by rfl) 29 (.tmp 16) rfl g16 0 rfl _ _ (fun _ h => h.2) Tryd.underlying29 rfl (by rw [cbZ.out]; kernel_rfl)) ⟨range_of X.out.h, range_of Y.out.h⟩ ?_
    try simp only [List.getElem_toArray, List.getElem_cons_succ, List.getElem_cons_zero, Act.put, List.setIfInBounds_toArray, List.set_cons_zero, List.set_cons_succ]
    refine anyT_one (i := 4) (by kernel_rfl) rfl (fun K hK => ?_)
    rw [if_pos (by rfl)]
    try simp only [List.getElem_toArray, List.getElem_cons_succ, List.getElem_cons_zero]
    (go_simp; refine (HHA.out w6 X.out.r).mono ?_; rintro e w7 ⟨rfl, hb⟩; replace X := Lib.hid (X.out.call hb); replace Y := Lib.hid (Y.out.call hb); clear hb)
    refine hK _ _ (fun _ => ⟨range_of X.out.h, range_of Y.out.h⟩) ?_
    clear hK K
    try simp only [List.getElem_toArray, List.getElem_cons_succ, List.getElem_cons_zero, Act.put, List.setIfInBounds_toArray, List.set_cons_zero, List.set_cons_succ]
    refine anyT_one (i := 6) (by kernel_rfl) rfl (fun K hK => ?_)
    rw [if_pos (by rfl)]
    try simp only [List.getElem_toArray, List.getElem_cons_succ, List.getElem_cons_zero]
    (go_simp; refine (HHB.out w7 Y.out.r).mono ?_; rintro e w8 ⟨rfl, hb⟩; replace X := Lib.hid (X.out.call hb); replace Y := Lib.hid (Y.out.call hb); clear hb)
    refine hK _ _ (fun _ => ⟨range_of X.out.h, range_of Y.out.h⟩) ?_
    clear hK K
    try simp only [List.getElem_toArray, List.getElem_cons_succ, List.getElem_cons_zero, Act.put, List.setIfInBounds_toArray, List.set_cons_zero, List.set_cons_succ]
    refine anyT_takeY (i := 7) (v := .int .i64 ((ha : Int) - (hb : Int))) rfl (by kernel_rfl) (by kernel_rfl) (by kernel_rfl) (fun _ _ _ h => h) (by kernel_rfl) (Or.inl ⟨by rfl, by intro w; go_simp⟩) ?_
    try simp only [List.getElem_toArray, List.getElem_cons_succ, List.getElem_cons_zero, Act.put, List.setIfInBounds_toArray, List.set_cons_zero, List.set_cons_succ]
    refine anyT_takeY (i := 8) (v := .bool false) rfl (by kernel_rfl) (by kernel_rfl) (by kernel_rfl) (fun _ _ _ h => h) (by kernel_rfl) (Or.inl ⟨by rfl, by intro w; go_simp⟩) ?_
    try simp only [List.getElem_toArray, List.getElem_cons_succ, List.getElem_cons_zero, Act.put, List.setIfInBounds_toArray, List.set_cons_zero, List.set_cons_succ]
    refine anyT_takeY (i := 9) (v := .bool false) rfl (by kernel_rfl) (by kernel_rfl) (by kernel_rfl) (fun _ _ _ h => h) (by kernel_rfl) (Or.inl ⟨by rfl, by intro w; go_simp⟩) ?_
    try simp only [List.getElem_toArray, List.getElem_cons_succ, List.getElem_cons_zero, Act.put, List.setIfInBounds_toArray, List.set_cons_zero, List.set_cons_succ]
    refine anyT_takeY (i := 10) (v := .bool false) rfl (by kernel_rfl) (by kernel_rfl) (by kernel_rfl) (fun _ _ _ h => h) (by kernel_rfl) (Or.inl ⟨by rfl, by intro w; go_simp⟩) ?_
    try simp only [List.getElem_toArray, List.getElem_cons_succ, List.getElem_cons_zero, Act.put, List.setIfInBounds_toArray, List.set_cons_zero, List.set_cons_succ]
    refine anyT_take [12, 14, 15, 16, 17] (i := 11) (v := .agg cb) rfl (by kernel_rfl) (by kernel_rfl) (by kernel_rfl) (fun _ _ _ h => h) (by kernel_rfl) (agg_mid (by rfl) 29 (.tmp 16) rfl g16 0 rfl _ _ (fun _ h => h.2) Tryd.underlying29 rfl (by rw [cbZ.out]; kernel_rfl)) ⟨range_of X.out.h, range_of Y.out.h⟩ ?_
    try simp only [List.getElem_toArray, List.getElem_cons_succ, List.getElem_cons_zero, Act.put, List.setIfInBounds_toArray, List.set_cons_zero, List.set_cons_succ]
    refine anyT_take [14, 15, 16, 17] (i := 13) (v := .agg ca) rfl (by kernel_rfl) (by kernel_rfl) (by kernel_rfl) (fun _ _ _ h => h) (by kernel_rfl) (agg_mid (by rfl) 29 (.tmp 12) rfl g12 0 rfl _ _ (fun _ h => h.1) Tryd.underlying29 rfl (by rw [caZ.out]; kernel_rfl)) ⟨range_of X.out.h, range_of Y.out.h⟩ ?_
    try simp only [List.getElem_toArray, List.getElem_cons_succ, List.getElem_cons_zero, Act.put, List.setIfInBounds_toArray, List.set_cons_zero, List.set_cons_succ]
    refine anyT_one (i := 12) (by kernel_rfl) rfl (fun K hK => ?_)
    rw [if_pos (by rfl)]
    try simp only [List.getElem_toArray, List.getElem_cons_succ, List.getElem_cons_zero]
    (go_simp; refine (HHB.out w8 Y.out.r).mono ?_; rintro e w9 ⟨rfl, hb⟩; replace X := Lib.hid (X.out.call hb); replace Y := Lib.hid (Y.out.call hb); clear hb)
    refine hK _ _ (fun _ => ⟨range_of X.out.h, range_of Y.out.h⟩) ?_
    clear hK K
    try simp only [List.getElem_toArray, List.getElem_cons_succ, List.getElem_cons_zero, Act.put, List.setIfInBounds_toArray, List.set_cons_zero, List.set_cons_succ]
    refine anyT_one (i := 14) (by kernel_rfl) rfl (fun K hK => ?_)
    rw [if_pos (by rfl)]
    try simp only [List.getElem_toArray, List.getElem_cons_succ, List.getElem_cons_zero]
    (go_simp; refine (HHA.out w9 X.out.r).mono ?_; rintro e w10 ⟨rfl, hb⟩; replace X := Lib.hid (X.out.call hb); replace Y := Lib.hid (Y.out.call hb); clear hb)
    refine hK _ _ (fun _ => ⟨range_of X.out.h, range_of Y.out.h⟩) ?_
    clear hK K
    try simp only [List.getElem_toArray, List.getElem_cons_succ, List.getElem_cons_zero, Act.put, List.setIfInBounds_toArray, List.set_cons_zero, List.set_cons_succ]
    refine anyT_takeY (i := 15) (v := .int .i64 ((hb : Int) - (ha : Int))) rfl (by kernel_rfl) (by kernel_rfl) (by kernel_rfl) (fun _ _ _ h => h) (by kernel_rfl) (Or.inl ⟨by rfl, by intro w; go_simp⟩) ?_
    try simp only [List.getElem_toArray, List.getElem_cons_succ, List.getElem_cons_zero, Act.put, List.setIfInBounds_toArray, List.set_cons_zero, List.set_cons_succ]
    refine anyT_takeY (i := 16) (v := .bool true) rfl (by kernel_rfl) (by kernel_rfl) (by kernel_rfl) (fun _ _ _ h => h) (by kernel_rfl) (Or.inl ⟨by rfl, by intro w; go_simp⟩) ?_
    try simp only [List.getElem_toArray, List.getElem_cons_succ, List.getElem_cons_zero, Act.put, List.setIfInBounds_toArray, List.set_cons_zero, List.set_cons_succ]
    refine anyT_takeY (i := 17) (v := .bool true) rfl (by kernel_rfl) (by kernel_rfl) (by kernel_rfl) (fun _ _ _ h => h) (by kernel_rfl) (Or.inl ⟨by rfl, by intro w; go_simp⟩) ?_
    try simp only [List.getElem_toArray, List.getElem_cons_succ, List.getElem_cons_zero, Act.put, List.setIfInBounds_toArray, List.set_cons_zero, List.set_cons_succ]
    refine anyT_done (by kernel_rfl) ?_ _
    have M := Lib.hid X.out.m
    clear X Y
    go_wp2_with (refine wpList_store_row rfl 29 (.tmp 8) (.tmp 97) rfl w.heap.size zR rfl rfl 29 _ M.out.re (by kernel_rfl) rfl (by simp [zR, Value.oneCell']) ?_)
    obtain ⟨e1, e2⟩ := M.out.done zR
    refine bodyPost_ret (results_cell_tmp3_row rfl _ _ w.heap.size 29 zR (0, 0) _ rfl e2 Tryd.underlying29 rfl (by kernel_rfl)) rfl ?_
    exact ⟨rfl, e1⟩
  · have hd1 : (1 : Int) < (ha : Int) - (hb : Int) := by omega
    clear hnr h1
    refine wp_region_T (fun w' => w'.rangeAt g12 0 ca.toList ∧ w'.rangeAt g16 0 cb.toList) [3, 4, 5, 6] (by kernel_rfl) ?_
    replace X := Lib.hid (X.out.call (Below.refl _ _).drew)
    replace Y := Lib.hid (Y.out.call (Below.refl _ _).drew)
    generalize w5.drew = w6 at *
    refine anyT_takeY (i := 0) (v := .bool true) rfl (by kernel_rfl) (by kernel_rfl) (by kernel_rfl) (fun _ _ _ h => h) (by kernel_rfl) (Or.inl ⟨by rfl, by intro w; go_simp⟩) ?_
    try simp only [List.getElem_toArray, List.getElem_cons_succ, List.getElem_cons_zero, Act.put, List.setIfInBounds_toArray, List.set_cons_zero, List.set_cons_succ]
    refine anyT_takeY (i := 1) (v := .bool false) rfl (by kernel_rfl) (by kernel_rfl) (by kernel_rfl) (fun _ _ _ h => h) (by kernel_rfl) (Or.inl ⟨by rfl, by intro w; go_simp⟩) ?_
    try simp only [List.getElem_toArray, List.getElem_cons_succ, List.getElem_cons_zero, Act.put, List.setIfInBounds_toArray, List.set_cons_zero, List.set_cons_succ]
    refine anyT_takeY (i := 2) (v := .bool false) rfl (by kernel_rfl) (by kernel_rfl) (by kernel_rfl) (fun _ _ _ h => h) (by kernel_rfl) (Or.inl ⟨by rfl, by intro w; go_simp⟩) ?_
    try simp only [List.getElem_toArray, List.getElem_cons_succ, List.getElem_cons_zero, Act.put, List.setIfInBounds_toArray, List.set_cons_zero, List.set_cons_succ]
    refine anyT_take [4, 6, 7, 8, 9, 10, 11, 12, 13, 14, 15, 16, 17] (i := 3) (v := .agg ca) rfl (by kernel_rfl) (by kernel_rfl) (by kernel_rfl) (fun _ _ _ h => h) (by kernel_rfl) (agg_mid (by rfl) 29 (.tmp 12) rfl g12 0 rfl _ _ (fun _ h => h.1) Tryd.underlying29 rfl (by rw [caZ.out]; kernel_rfl)) ⟨range_of X.out.h, range_of Y.out.h⟩ ?_
    try simp only [List.getElem_toArray, List.getElem_cons_succ, List.getElem_cons_zero, Act.put, List.setIfInBounds_toArray, List.set_cons_zero, List.set_cons_succ]
    refine anyT_take [6, 7, 8, 9, 10, 11, 12, 13, 14, 15, 16, 17] (i := 5) (v := .agg cb) rfl (by kernel_rfl) (by kernel_rfl) (by kernel_rfl) (fun _ _ _ h => h) (by kernel_rfl) (agg_mid (by rfl) 29 (.tmp 16) rfl g16 0 rfl _ _ (fun _ h => h.2) Tryd.underlying29 rfl (by rw [cbZ.out]; kernel_rfl)) ⟨range_of X.out.h, range_of Y.out.h⟩ ?_
    try simp only [List.getElem_toArray, List.getElem_cons_succ, List.getElem_cons_zero, Act.put, List.setIfInBounds_toArray, List.set_cons_zero, List.set_cons_succ]
    refine anyT_one (i := 4) (by kernel_rfl) rfl (fun K hK => ?_)
    rw [if_pos (by rfl)]
    try simp only [List.getElem_toArray, List.getElem_cons_succ, List.getElem_cons_zero]
    (go_simp; refine (HHA.out w6 X.out.r).mono ?_; rintro e w7 ⟨rfl, hb⟩; replace X := Lib.hid (X.out.call hb); replace Y := Lib.hid (Y.out.call hb); clear hb)
    refine hK _ _ (fun _ => ⟨range_of X.out.h, range_of Y.out.h⟩) ?_
    clear hK K
    try simp only [List.getElem_toArray, List.getElem_cons_succ, List.getElem_cons_zero, Act.put, List.setIfInBounds_toArray, List.set_cons_zero, List.set_cons_succ]
    refine anyT_one (i := 6) (by kernel_rfl) rfl (fun K hK => ?_)
    rw [if_pos (by rfl)]
    try simp only [List.getElem_toArray, List.getElem_cons_succ, List.getElem_cons_zero]
    (go_simp; refine (HHB.out w7 Y.out.r).mono ?_; rintro e w8 ⟨rfl, hb⟩; replace X := Lib.hid (X.out.call hb); replace Y := Lib.hid (Y.out.call hb); clear hb)
    refine hK _ _ (fun _ => ⟨range_of X.out.h, range_of Y.out.h⟩) ?_
    clear hK K
    try simp only [List.getElem_toArray, List.getElem_cons_succ, List.getElem_cons_zero, Act.put, List.setIfInBounds_toArray, List.set_cons_zero, List.set_cons_succ]
    refine anyT_takeY (i := 7) (v := .int .i64 ((ha : Int) - (hb : Int))) rfl (by kernel_rfl) (by kernel_rfl) (by kernel_rfl) (fun _ _ _ h => h) (by kernel_rfl) (Or.inl ⟨by rfl, by intro w; go_simp⟩) ?_
    try simp only [List.getElem_toArray, List.getElem_cons_succ, List.getElem_cons_zero, Act.put, List.setIfInBounds_toArray, List.set_cons_zero, List.set_cons_succ]
    refine anyT_takeY (i := 8) (v := .bool true) rfl (by kernel_rfl) (by kernel_rfl) (by kernel_rfl) (fun _ _ _ h => h) (by kernel_rfl) (Or.inl ⟨by rfl, by intro w; go_simp⟩) ?_
    try simp only [List.getElem_toArray, List.getElem_cons_succ, List.getElem_cons_zero, Act.put, List.setIfInBounds_toArray, List.set_cons_zero, List.set_cons_succ]
    refine anyT_takeY (i := 9) (v := .bool true) rfl (by kernel_rfl) (by kernel_rfl) (by kernel_rfl) (fun _ _ _ h => h) (by kernel_rfl) (Or.inl ⟨by rfl, by intro w; go_simp⟩) ?_
    try simp only [List.getElem_toArray, List.getElem_cons_succ, List.getElem_cons_zero, Act.put, List.setIfInBounds_toArray, List.set_cons_zero, List.set_cons_succ]
    refine anyT_takeY (i := 10) (v := .bool true) rfl (by kernel_rfl) (by kernel_rfl) (by kernel_rfl) (fun _ _ _ h => h) (by kernel_rfl) (Or.inl ⟨by rfl, by intro w; go_simp⟩) ?_
    try simp only [List.getElem_toArray, List.getElem_cons_succ, List.getElem_cons_zero, Act.put, List.setIfInBounds_toArray, List.set_cons_zero, List.set_cons_succ]
    refine anyT_takeY (i := 11) (v := undef) rfl (by kernel_rfl) (by kernel_rfl) (by kernel_rfl) (fun _ _ _ h => h) (by kernel_rfl) (Or.inr ⟨by rfl, rfl⟩) ?_
    try simp only [List.getElem_toArray, List.getElem_cons_succ, List.getElem_cons_zero, Act.put, List.setIfInBounds_toArray, List.set_cons_zero, List.set_cons_succ]
    refine anyT_takeY (i := 12) (v := undef) rfl (by kernel_rfl) (by kernel_rfl) (by kernel_rfl) (fun _ _ _ h => h) (by kernel_rfl) (Or.inr ⟨by rfl, rfl⟩) ?_
    try simp only [List.getElem_toArray, List.getElem_cons_succ, List.getElem_cons_zero, Act.put, List.setIfInBounds_toArray, List.set_cons_zero, List.set_cons_succ]
    refine anyT_takeY (i := 13) (v := undef) rfl (by kernel_rfl) (by kernel_rfl) (by kernel_rfl) (fun _ _ _ h => h) (by kernel_rfl) (Or.inr ⟨by rfl, rfl⟩) ?_
    try simp only [List.getElem_toArray, List.getElem_cons_succ, List.getElem_cons_zero, Act.put, List.setIfInBounds_toArray, List.set_cons_zero, List.set_cons_succ]
    refine anyT_takeY (i := 14) (v := undef) rfl (by kernel_rfl) (by kernel_rfl) (by kernel_rfl) (fun _ _ _ h => h) (by kernel_rfl) (Or.inr ⟨by rfl, rfl⟩) ?_
    try simp only [List.getElem_toArray, List.getElem_cons_succ, List.getElem_cons_zero, Act.put, List.setIfInBounds_toArray, List.set_cons_zero, List.set_cons_succ]
    refine anyT_takeY (i := 15) (v := undef) rfl (by kernel_rfl) (by kernel_rfl) (by kernel_rfl) (fun _ _ _ h => h) (by kernel_rfl) (Or.inr ⟨by rfl, rfl⟩) ?_
    try simp only [List.getElem_toArray, List.getElem_cons_succ, List.getElem_cons_zero, Act.put, List.setIfInBounds_toArray, List.set_cons_zero, List.set_cons_succ]
    refine anyT_takeY (i := 16) (v := undef) rfl (by kernel_rfl) (by kernel_rfl) (by kernel_rfl) (fun _ _ _ h => h) (by kernel_rfl) (Or.inr ⟨by rfl, rfl⟩) ?_
    try simp only [List.getElem_toArray, List.getElem_cons_succ, List.getElem_cons_zero, Act.put, List.setIfInBounds_toArray, List.set_cons_zero, List.set_cons_succ]
    refine anyT_takeY (i := 17) (v := .bool true) rfl (by kernel_rfl) (by kernel_rfl) (by kernel_rfl) (fun _ _ _ h => h) (by kernel_rfl) (Or.inl ⟨by rfl, by intro w; go_simp⟩) ?_
    try simp only [List.getElem_toArray, List.getElem_cons_succ, List.getElem_cons_zero, Act.put, List.setIfInBounds_toArray, List.set_cons_zero, List.set_cons_succ]
    refine anyT_done (by kernel_rfl) ?_ _
    have M := Lib.hid X.out.m
    clear X Y
    go_wp2_with (refine wpList_store_row rfl 29 (.tmp 8) (.tmp 97) rfl w.heap.size zR rfl rfl 29 _ M.out.re (by kernel_rfl) rfl (by simp [zR, Value.oneCell']) ?_)
    obtain ⟨e1, e2⟩ := M.out.done zR
    refine bodyPost_ret (results_cell_tmp3_row rfl _ _ w.heap.size 29 zR (0, 0) _ rfl e2 Tryd.underlying29 rfl (by kernel_rfl)) rfl ?_
    exact ⟨rfl, e1⟩
set_option maxHeartbeats 4000000 in
theorem read_ny (vs va : Value) (s : List Bool) (L : List KV) (i k : Nat) (w : World) (hs : BlIn w vs s) (ha : KVIn w va L) (hbit : s[i]? = some true) (hk : k < L.length) (ta : AvT) (i1 k1 : Nat) (hia : ∀ w', BlIn w' vs s → KVIn w' va L → Calls Tryd.prog 38 #[vs, va, .int .i64 ((i : Int) + 1), .int .i64 (k : Int)] w' (RdYes ta i1 k1 w')) (tb : AvT) (i2 k2 : Nat) (hib : ∀ w', BlIn w' vs s → KVIn w' va L → Calls Tryd.prog 38 #[vs, va, .int .i64 (i1 : Int), .int .i64 (k1 : Int)] w' (RdYes tb i2 k2 w')) (hmt : ta.many ≤ 1099511627776 ∧ tb.many ≤ 1099511627776) (hnr : nearB ta tb = true) : Calls Tryd.prog 38 #[vs, va, .int .i64 (i : Int), .int .i64 (k : Int)] w (RdYes (.node ta tb) i2 k2 w) := by
  have hi : i < s.length := (List.getElem?_eq_some_iff.1 hbit).1
  have M := Lib.hid (rdM_start hs ha)
  obtain ⟨sa, sc, rfl⟩ := hs.len
  obtain ⟨aa, ac, rfl⟩ := ha.len
  have hsl : s.length ≤ maxLen := by obtain ⟨_, _, _, _, hm, _⟩ := hs; exact hm
  have hll : L.length ≤ maxLen := by obtain ⟨_, _, _, _, hm, _⟩ := ha; exact hm
  unfold maxLen at hsl hll
  have hI : ¬ (s.length : Int) ≤ (i : Int) := by omega
  have hI2 : ¬ (L.length : Int) ≤ (k : Int) := by omega
  have hI3 : (i : Int) < (s.length : Int) := by omega
  have hI4 : (k : Int) < (L.length : Int) := by omega
  have hw1 : IntKind.i64.wrap ((i : Int) + 1) = (i : Int) + 1 := IntWalk.i64_in _ (by omega)
  have hw2 : IntKind.i64.wrap ((k : Int) + 1) = (k : Int) + 1 := IntWalk.i64_in _ (by omega)
  obtain ⟨sb, so, rfl, hsb, hsc⟩ := hs.at i _ hbit
  have HIA := Lib.hid hia
  have HIB := Lib.hid hib
  clear hib
  clear ha hs hbit hia
  unfold RdYes at HIA HIB
  unfold RdYes at *
  go_enter Tryd.func38, Tryd.ntmps38
  go_upto_region 1 with (fail)
  have e0 : w.alloc (.cells #[.bool false, .string { data := #[] }, .string { data := #[] }, .slice none 0 0] 29) = w.alloc (.cells zR 29) := rfl
  rw [e0]
  clear e0
  generalize w.alloc (.cells zR 29) = w1 at *
  have c0 : w1.cell? ⟨sb, so + i, none⟩ = some (.bool true) := (M.out.below.cell (p := ⟨sb, so + i, none⟩) hsb).trans hsc
  go_upto_region 6 with (first
    | (go_at_call 38; (with_reducible refine (HIA.out _ M.out.sh M.out.kv).mono ?_); clear HIA; rintro e w2 ⟨ca, rfl, hr, hb⟩; have HRA := Lib.hid hr; have caZ := Lib.hid hr.size; have caO := Lib.hid (RO.one (t := some ta) hr); replace M := Lib.hid (M.out.call hb); clear hr hb)
    | (refine wpList_store_row rfl 29 (.tmp 12) (.tmp 60) rfl w2.heap.size ca rfl rfl 29 _ (heap_alloc_new _ _) (by rw [caZ.out]; kernel_rfl) (by rw [caZ.out]; rfl) (caO.out) ?_; rw [World.setRow_alloc_new]))
  clear c0
  have X := Lib.hid (RdX.of M.out HRA.out)
  obtain ⟨g12, hg12⟩ : ∃ g, g = w2.heap.size := ⟨_, rfl⟩
  rw [← hg12] at X ⊢
  clear M HRA hg12
  generalize w2.alloc (.cells ca 29) = w3 at *
  go_upto_region 9 with (first
    | (go_at_call 38; (with_reducible refine (HIB.out _ X.out.m.sh X.out.m.kv).mono ?_); clear HIB; rintro e w4 ⟨cb, rfl, hr, hb⟩; have HRB := Lib.hid hr; have cbZ := Lib.hid hr.size; have cbO := Lib.hid (RO.one (t := some tb) hr); replace X := Lib.hid (X.out.call hb); clear hr hb)
    | (refine wpList_store_row rfl 29 (.tmp 16) (.tmp 75) rfl w4.heap.size cb rfl rfl 29 _ (heap_alloc_new _ _) (by rw [cbZ.out]; kernel_rfl) (by rw [cbZ.out]; rfl) (cbO.out) ?_; rw [World.setRow_alloc_new]))
  have Y := Lib.hid (RdX.of X.out.m HRB.out)
  replace X := Lib.hid (X.out.call (below_alloc w4 (.cells cb 29)))
  obtain ⟨g16, hg16⟩ : ∃ g, g = w4.heap.size := ⟨_, rfl⟩
  rw [← hg16] at Y ⊢
  clear HRB hg16
  generalize w4.alloc (.cells cb 29) = w5 at *
  have HHA := Lib.hid (fun w h => rheight_some ta ca w h (by omega))
  have HHB := Lib.hid (fun w h => rheight_some tb cb w h (by omega))
  unfold HtPost at HHA HHB
  have hla := ta.height_le
  have hlb := tb.height_le
  obtain ⟨ha, hha⟩ : ∃ n, n = ta.height := ⟨_, rfl⟩
  obtain ⟨hb, hhb⟩ : ∃ n, n = tb.height := ⟨_, rfl⟩
  have HNR := Lib.hid (show nearB ta tb = (decide (ha ≤ hb + 1) && decide (hb ≤ ha + 1)) by rw [hha, hhb]; rfl)
  rw [← hha] at HHA hla
  rw [← hhb] at HHB hlb
  have hwa : IntKind.i64.wrap ((ha : Int) - (hb : Int)) = (ha : Int) - (hb : Int) := IntWalk.i64_in _ (by omega)
  have hwb : IntKind.i64.wrap ((hb : Int) - (ha : Int)) = (hb : Int) - (ha : Int) := IntWalk.i64_in _ (by omega)
  clear hha hhb hla hlb hmt
  rw [HNR.out] at hnr
  simp only [Bool.and_eq_true, decide_eq_true_eq] at hnr
  have hd1 : ¬ (1 : Int) < (ha : Int) - (hb : Int) := by omega
  have hd2 : ¬ (1 : Int) < (hb : Int) - (ha : Int) := by omega
  clear hnr
  refine wp_region_T (fun w' => w'.rangeAt g12 0 ca.toList ∧ w'.rangeAt g16 0 cb.toList) [3, 4, 5, 6, 11, 12, 13] (by kernel_rfl) ?_
  replace X := Lib.hid (X.out.call (Below.refl _ _).drew)
  replace Y := Lib.hid (Y.out.call (Below.refl _ _).drew)
  generalize w5.drew = w6 at *
  refine anyT_takeY (i := 0) (v := .bool true) rfl (by kernel_rfl) (by kernel_rfl) (by kernel_rfl) (fun _ _ _ h => h) (by kernel_rfl) (Or.inl ⟨by rfl, by intro w; go_simp⟩) ?_
  try simp only [List.getElem_toArray, List.getElem_cons_succ, List.getElem_cons_zero, Act.put, List.setIfInBounds_toArray, List.set_cons_zero, List.set_cons_succ]
  refine anyT_takeY (i := 1) (v := .bool false) rfl (by kernel_rfl) (by kernel_rfl) (by kernel_rfl) (fun _ _ _ h => h) (by kernel_rfl) (Or.inl ⟨by rfl, by intro w; go_simp⟩) ?_
  try simp only [List.getElem_toArray, List.getElem_cons_succ, List.getElem_cons_zero, Act.put, List.setIfInBounds_toArray, List.set_cons_zero, List.set_cons_succ]
  refine anyT_takeY (i := 2) (v := .bool false) rfl (by kernel_rfl) (by kernel_rfl) (by kernel_rfl) (fun _ _ _ h => h) (by kernel_rfl) (Or.inl ⟨by rfl, by intro w; go_simp⟩) ?_
  try simp only [List.getElem_toArray, List.getElem_cons_succ, List.getElem_cons_zero, Act.put, List.setIfInBounds_toArray, List.set_cons_zero, List.set_cons_succ]
  refine anyT_take [4, 6, 7, 8, 9, 10, 11, 12, 13, 14, 15, 16, 17] (i := 3) (v := .agg ca) rfl (by kernel_rfl) (by kernel_rfl) (by kernel_rfl) (fun _ _ _ h => h) (by kernel_rfl) (agg_mid (by rfl) 29 (.tmp 12) rfl g12 0 rfl _ _ (fun _ h => h.1) Tryd.underlying29 rfl (by rw [caZ.out]; kernel_rfl)) ⟨range_of X.out.h, range_of Y.out.h⟩ ?_
  try simp only [List.getElem_toArray, List.getElem_cons_succ, List.getElem_cons_zero, Act.put, List.setIfInBounds_toArray, List.set_cons_zero, List.set_cons_succ]
  refine anyT_take [6, 7, 8, 9, 10, 11, 12, 13, 14, 15, 16, 17] (i := 5) (v := .agg cb) rfl (by kernel_rfl) (by kernel_rfl) (by kernel_rfl) (fun _ _ _ h => h) (by kernel_rfl) (agg_mid (by rfl) 29 (.tmp 16) rfl g16 0 rfl _ _ (fun _ h => h.2) Tryd.underlying29 rfl (by rw [cbZ.out]; kernel_rfl)) ⟨range_of X.out.h, range_of Y.out.h⟩ ?_
  try simp only [List.getElem_toArray, List.getElem_cons_succ, List.getElem_cons_zero, Act.put, List.setIfInBounds_toArray, List.set_cons_zero, List.set_cons_succ]
  refine anyT_one (i := 4) (by kernel_rfl) rfl (fun K hK => ?_)
  rw [if_pos (by rfl)]
  try simp only [List.getElem_toArray, List.getElem_cons_succ, List.getElem_cons_zero]
  (go_simp; refine (HHA.out w6 X.out.r).mono ?_; rintro e w7 ⟨rfl, hb⟩; replace X := Lib.hid (X.out.call hb); replace Y := Lib.hid (Y.out.call hb); clear hb)
  refine hK _ _ (fun _ => ⟨range_of X.out.h, range_of Y.out.h⟩) ?_
  clear hK K
  try simp only [List.getElem_toArray, List.getElem_cons_succ, List.getElem_cons_zero, Act.put, List.setIfInBounds_toArray, List.set_cons_zero, List.set_cons_succ]
  refine anyT_one (i := 6) (by kernel_rfl) rfl (fun K hK => ?_)
  rw [if_pos (by rfl)]
  try simp only [List.getElem_toArray, List.getElem_cons_succ, List.getElem_cons_zero]
  (go_simp; refine (HHB.out w7 Y.out.r).mono ?_; rintro e w8 ⟨rfl, hb⟩; replace X := Lib.hid (X.out.call hb); replace Y := Lib.hid (Y.out.call hb); clear hb)
  refine hK _ _ (fun _ => ⟨range_of X.out.h, range_of Y.out.h⟩) ?_
  clear hK K
  try simp only [List.getElem_toArray, List.getElem_cons_succ, List.getElem_cons_zero, Act.put, List.setIfInBounds_toArray, List.set_cons_zero, List.set_cons_succ]
  refine anyT_takeY (i := 7) (v := .int .i64 ((ha : Int) - (hb : Int))) rfl (by kernel_rfl) (by kernel_rfl) (by kernel_rfl) (fun _ _ _ h => h) (by kernel_rfl) (Or.inl ⟨by rfl, by intro w; go_simp⟩) ?_
  try simp only [List.getElem_toArray, List.getElem_cons_succ, List.getElem_cons_zero, Act.put, List.setIfInBounds_toArray, List.set_cons_zero, List.set_cons_succ]
  refine anyT_takeY (i := 8) (v := .bool false) rfl (by kernel_rfl) (by kernel_rfl) (by kernel_rfl) (fun _ _ _ h => h) (by kernel_rfl) (Or.inl ⟨by rfl, by intro w; go_simp⟩) ?_
  try simp only [List.getElem_toArray, List.getElem_cons_succ, List.getElem_cons_zero, Act.put, List.setIfInBounds_toArray, List.set_cons_zero, List.set_cons_succ]
  refine anyT_takeY (i := 9) (v := .bool false) rfl (by kernel_rfl) (by kernel_rfl) (by kernel_rfl) (fun _ _ _ h => h) (by kernel_rfl) (Or.inl ⟨by rfl, by intro w; go_simp⟩) ?_
  try simp only [List.getElem_toArray, List.getElem_cons_succ, List.getElem_cons_zero, Act.put, List.setIfInBounds_toArray, List.set_cons_zero, List.set_cons_succ]
  refine anyT_takeY (i := 10) (v := .bool false) rfl (by kernel_rfl) (by kernel_rfl) (by kernel_rfl) (fun _ _ _ h => h) (by kernel_rfl) (Or.inl ⟨by rfl, by intro w; go_simp⟩) ?_
  try simp only [List.getElem_toArray, List.getElem_cons_succ, List.getElem_cons_zero, Act.put, List.setIfInBounds_toArray, List.set_cons_zero, List.set_cons_succ]
  refine anyT_take [12, 14, 15, 16, 17] (i := 11) (v := .agg cb) rfl (by kernel_rfl) (by kernel_rfl) (by kernel_rfl) (fun _ _ _ h => h) (by kernel_rfl) (agg_mid (by rfl) 29 (.tmp 16) rfl g16 0 rfl _ _ (fun _ h => h.2) Tryd.underlying29 rfl (by rw [cbZ.out]; kernel_rfl)) ⟨range_of X.out.h, range_of Y.out.h⟩ ?_
  try simp only [List.getElem_toArray, List.getElem_cons_succ, List.getElem_cons_zero, Act.put, List.setIfInBounds_toArray, List.set_cons_zero, List.set_cons_succ]
  refine anyT_take [14, 15, 16, 17] (i := 13) (v := .agg ca) rfl (by kernel_rfl) (by kernel_rfl) (by kernel_rfl) (fun _ _ _ h => h) (by kernel_rfl) (agg_mid (by rfl) 29 (.tmp 12) rfl g12 0 rfl _ _ (fun _ h => h.1) Tryd.underlying29 rfl (by rw [caZ.out]; kernel_rfl)) ⟨range_of X.out.h, range_of Y.out.h⟩ ?_
  try simp only [List.getElem_toArray, List.getElem_cons_succ, List.getElem_cons_zero, Act.put, List.setIfInBounds_toArray, List.set_cons_zero, List.set_cons_succ]
  refine anyT_one (i := 12) (by kernel_rfl) rfl (fun K hK => ?_)
  rw [if_pos (by rfl)]
  try simp only [List.getElem_toArray, List.getElem_cons_succ, List.getElem_cons_zero]
  (go_simp; refine (HHB.out w8 Y.out.r).mono ?_; rintro e w9 ⟨rfl, hb⟩; replace X := Lib.hid (X.out.call hb); replace Y := Lib.hid (Y.out.call hb); clear hb)
  refine hK _ _ (fun _ => ⟨range_of X.out.h, range_of Y.out.h⟩) ?_
  clear hK K
  try simp only [List.getElem_toArray, List.getElem_cons_succ, List.getElem_cons_zero, Act.put, List.setIfInBounds_toArray, List.set_cons_zero, List.set_cons_succ]
  refine anyT_one (i := 14) (by kernel_rfl) rfl (fun K hK => ?_)
  rw [if_pos (by rfl)]
  try simp only [List.getElem_toArray, List.getElem_cons_succ, List.getElem_cons_zero]
  (go_simp; refine (HHA.out w9 X.out.r).mono ?_; rintro e w10 ⟨rfl, hb⟩; replace X := Lib.hid (X.out.call hb); replace Y := Lib.hid (Y.out.call hb); clear hb)
  refine hK _ _ (fun _ => ⟨range_of X.out.h, range_of Y.out.h⟩) ?_
  clear hK K
  try simp only [List.getElem_toArray, List.getElem_cons_succ, List.getElem_cons_zero, Act.put, List.setIfInBounds_toArray, List.set_cons_zero, List.set_cons_succ]
  refine anyT_takeY (i := 15) (v := .int .i64 ((hb : Int) - (ha : Int))) rfl (by kernel_rfl) (by kernel_rfl) (by kernel_rfl) (fun _ _ _ h => h) (by kernel_rfl) (Or.inl ⟨by rfl, by intro w; go_simp⟩) ?_
  try simp only [List.getElem_toArray, List.getElem_cons_succ, List.getElem_cons_zero, Act.put, List.setIfInBounds_toArray, List.set_cons_zero, List.set_cons_succ]
  refine anyT_takeY (i := 16) (v := .bool false) rfl (by kernel_rfl) (by kernel_rfl) (by kernel_rfl) (fun _ _ _ h => h) (by kernel_rfl) (Or.inl ⟨by rfl, by intro w; go_simp⟩) ?_
  try simp only [List.getElem_toArray, List.getElem_cons_succ, List.getElem_cons_zero, Act.put, List.setIfInBounds_toArray, List.set_cons_zero, List.set_cons_succ]
  refine anyT_takeY (i := 17) (v := .bool false) rfl (by kernel_rfl) (by kernel_rfl) (by kernel_rfl) (fun _ _ _ h => h) (by kernel_rfl) (Or.inl ⟨by rfl, by intro w; go_simp⟩) ?_
  try simp only [List.getElem_toArray, List.getElem_cons_succ, List.getElem_cons_zero, Act.put, List.setIfInBounds_toArray, List.set_cons_zero, List.set_cons_succ]
  refine anyT_done (by kernel_rfl) ?_ _
  go_wp2_with (first
    | (refine wpList_load_row rfl 29 (.tmp 12) rfl g12 rfl 29 _ (0, 0) _ X.out.h Tryd.underlying29 rfl (by rw [caZ.out]; kernel_rfl) ?_)
    | (refine wpList_load_row rfl 29 (.tmp 16) rfl g16 rfl 29 _ (0, 0) _ Y.out.h Tryd.underlying29 rfl (by rw [cbZ.out]; kernel_rfl) ?_)
    | (go_at_call 57; (with_reducible refine (rtwo_any ca cb ta tb _ X.out.r Y.out.r).mono ?_); rintro e w11 ⟨u1, rfl, ht, hb⟩; have HRu1 := Lib.hid (show RT w11 u1 (.node ta tb) from ht); have u1Z := Lib.hid (RO.size ht); have u1O := Lib.hid (RO.one ht); have M := Lib.hid (X.out.m.call hb); clear ht hb)
    | (refine wpList_store_row rfl 29 (.tmp 8) (.tmp 102) rfl w.heap.size u1 rfl rfl 29 _ M.out.re (by rw [u1Z.out]; kernel_rfl) (by rw [u1Z.out]; rfl) u1O.out ?_))
  obtain ⟨e1, e2⟩ := M.out.done u1
  refine bodyPost_ret (results_cell_tmp3_row rfl _ _ w.heap.size 29 u1 (0, 0) _ rfl e2 Tryd.underlying29 rfl (by rw [u1Z.out]; kernel_rfl)) rfl ?_
  exact ⟨u1, rfl, HRu1.out.setRow M.out.re rfl, e1⟩
end Go.Proofs.YtadolfacjolbkaaDoor

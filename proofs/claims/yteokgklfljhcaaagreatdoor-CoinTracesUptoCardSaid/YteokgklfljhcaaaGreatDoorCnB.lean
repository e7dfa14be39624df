/- coin: Parse (written by gencnb.py). -/
import Derived.Test.YteokgklfljhcaaaGreatDoorCnH
import Derived.Test.YteokgklfljhcaaaGreatDoorRes
namespace Go.Proofs.YteokgklfljhcaaaGreatDoor
open Go.RowKit Go.Shelf
set_option maxRecDepth 100000
set_option linter.unusedSimpArgs false
set_option linter.unusedVariables false
attribute [local go_sem] Oper.semAt_some
def parPath (s : ByteArray) : List ByteArray := (List.range ((partsS s).length / 2)).map fun j => joinS (ckL ((partsS s).take ((partsS s).length - 1)) j)
def parBase (s : ByteArray) : ByteArray := ((partsS s)[(partsS s).length - 1]?).getD { data := #[] }
def parE (s : ByteArray) : Option Nat := trE (parPath s) (parBase s)
def parP (s : ByteArray) : List ByteArray := if parE s = none then parPath s else []
def parB (s : ByteArray) : ByteArray := if parE s = none then parBase s else { data := #[] }
theorem cell_of_ss {W : World} {ab ao n cap i : Nat} {l : List ByteArray} {x : ByteArray} (h : SsIn W (.slice (some ⟨ab, ao, none⟩) n cap) (l.take n)) (hx : l[i]? = some x) (hi : i < n := by omega) : W.cell? ⟨ab, ao + i, none⟩ = some (.string x) := by
  obtain ⟨ab2, ao2, e, hc⟩ := h.get (show (l.take n)[i]? = some x from by rw [List.getElem?_take, if_pos hi]; exact hx)
  injection e with e
  injection e with e1 e2
  subst e1 e2
  exact hc
theorem mkChunk (v : Value) (w : World) (a : Option Addr) (n c : Nat) (hv : v = .slice a n c) : Calls Tryz.prog 87 #[v, .int .i64 2] w fun e w' => e = .returned (.func (.func 136) #[] #[.pointer (some ⟨w.heap.size, 0, none⟩), .pointer (some ⟨w.heap.size + 1, 0, none⟩)]) ∧ w' = (w.alloc (.cells #[v] 60)).alloc (.cells #[.int .i64 2] 3) := by
  subst hv
  have c2 : ((w.alloc (.cells #[.slice a n c] 60)).alloc (.cells #[.int .i64 2] 3)).cell? ⟨w.heap.size + 1, 0, none⟩ = some (.int .i64 2) := by
    have h := heap_alloc_new (w.alloc (.cells #[.slice a n c] 60)) (.cells #[.int .i64 2] 3)
    rw [show (w.alloc (.cells #[.slice a n c] 60)).heap.size = w.heap.size + 1 from by simp] at h
    exact cell_of_row _ _ _ _ _ _ h
  go_enter Tryz.func87, Tryz.ntmps87
  go_wp2_with (fail)
  go_ret
  exact ⟨by simp, rfl⟩
theorem piece_size (s sep : ByteArray) : ∀ (k : Nat) (x : ByteArray), x.size ≤ s.size → ∀ p ∈ Lib.splitB sep 0 k x, p.size ≤ s.size
  | 0, x, hx, p, hp => by
    rw [List.mem_singleton.1 hp]; exact hx
  | k + 1, x, hx, p, hp => by
    unfold Lib.splitB at hp
    split at hp
    · rw [List.mem_singleton.1 hp]; exact hx
    · rcases List.mem_cons.1 hp with rfl | hp
      · rw [ByteArray.size_extract]; omega
      · exact piece_size s sep k _ (by rw [ByteArray.size_extract]; omega) p hp
theorem joinS_len (l : List ByteArray) : (joinS l).size = (Lib.join (l.map (·.data.toList)) [47]).length := by unfold joinS; simp [ByteArray.size]
theorem joinS_small (l : List ByteArray) (N : Nat) (h2 : l.length ≤ 2) (h : ∀ x ∈ l, x.size ≤ N) : (joinS l).size ≤ 2 * N + 1 := by
  rw [joinS_len]
  match l, h2, h with
  | [], _, _ => simp [Lib.join_nil]
  | [a], _, h =>
    have h1 := h a (by simp)
    rw [List.map_singleton, Lib.join_one, Array.length_toList]
    exact Nat.le_trans h1 (by omega)
  | [a, b], _, h =>
    have h1 : a.data.size ≤ N := h a (by simp)
    have h2 : b.data.size ≤ N := h b (by simp)
    rw [List.map_cons, Lib.join_length]
    simp only [List.length_map, List.length_cons, List.length_nil, Lib.lens, List.map_cons, List.map_nil, List.sum_cons, List.sum_nil, Array.length_toList]
    omega
  | _ :: _ :: _ :: _, h2, _ => simp at h2
/-- what lies in memory in Parse's loop -/
structure PsM (s : ByteArray) (w : World) (L cap : Nat) (base : ByteArray) (pv : Value) (path : List ByteArray) (W : World) : Prop where
  res : W.heap[w.heap.size]? = some (.cells (trC (.slice none 0 0) { data := #[] }) 65 (0, 0))
  pc : W.heap[w.heap.size + 1]? = some (.cells (cellsS s) 9 (0, 0))
  x : W.heap[w.heap.size + 2]? = some (.cells (trC pv base) 65 (0, 0))
  sb : Boxed W (w.heap.size + 3) 60 (.slice (some ⟨w.heap.size + 1, 0, none⟩) L cap)
  nb : Boxed W (w.heap.size + 4) 3 (.int .i64 2)
  own : W.ownsRow (w.heap.size + 5) 9 1 pv path.length (strV path)
  below : Below w.heap.size w W
section
variable {s : ByteArray} {w W W' : World} {L cap : Nat} {base : ByteArray} {pv : Value} {path : List ByteArray}
theorem PsM.keep (m : PsM s w L cap base pv path W) (hb : Below w.heap.size w W') (h : ∀ (j : Nat) (cs : Array Value) (t : TypeId), W.heap[j]? = some (Obj.cells cs t (0, 0)) → W'.heap[j]? = W.heap[j]?) : PsM s w L cap base pv path W' := by
  refine ⟨(h _ _ _ m.res).trans m.res, (h _ _ _ m.pc).trans m.pc, (h _ _ _ m.x).trans m.x, (h _ _ _ m.sb).trans m.sb, (h _ _ _ m.nb).trans m.nb, ⟨m.own.1, m.own.2.imp id ?_⟩, hb⟩
  rintro ⟨k, cap, cur, rfl, h1, h2, h3⟩
  exact ⟨k, cap, cur, rfl, h1, (h _ _ _ h2).trans h2, h3⟩
theorem PsM.call (m : PsM s w L cap base pv path W) (hb : Below W.heap.size W W') : PsM s w L cap base pv path W' := m.keep (m.below.trans (hb.mono m.below.size)) fun j cs t hj => hb.block j (hlt14 hj)
theorem PsM.ownF (m : PsM s w L cap base pv path W) {row : Option Nat} {D : Nat} (hD : w.heap.size ≤ D) (hg : W.grownBy W' row) (hr : ∀ r, row = some r → D ≤ r ∧ ∃ o : Obj, W.heap[r]? = some o ∧ o.isCells = false) : PsM s w L cap base pv path W' :=
  m.keep (m.below.grown hg m.below.size (fun r e => Nat.le_trans hD (hr r e).1)) fun j cs t hj => hg.block j (hlt14 hj) fun e => by
    obtain ⟨_, o, ho, hc⟩ := hr j e.symm
    rw [hj] at ho; cases ho; cases hc
theorem PsM.c0 (m : PsM s w L cap base pv path W) : W.cell? ⟨w.heap.size + 2, 0, none⟩ = some pv := cell_of_row _ _ _ _ _ _ m.x
theorem PsM.wide (m : PsM s w L cap base pv path W) : ∃ a c, pv = .slice a path.length c := by
  rcases m.own.2 with ⟨rfl, h⟩ | ⟨g, cap, cur, rfl, _⟩
  · exact ⟨none, 0, by rw [h]⟩
  · exact ⟨_, _, rfl⟩
theorem PsM.push (m : PsM s w L cap base pv path W) {x : ByteArray} {v : Value} (hg : W.grownBy W' pv.ownBlock) (ho : W'.ownsRow (w.heap.size + 5) 9 1 v (path ++ [x]).length (strV (path ++ [x]))) :
    PsM s w L cap base v (path ++ [x]) (W'.setCell ⟨w.heap.size + 2, 0, none⟩ v) ∧ KeepsOthers W (W'.setCell ⟨w.heap.size + 2, 0, none⟩ v) ∧ W'.heap[w.heap.size + 2]? = some (.cells (trC pv base) 65 (0, 0)) := by
  have hr : ∀ k, pv.ownBlock = some k → w.heap.size + 5 ≤ k := fun k hk => (m.own.lt k hk).1
  have hne : ∀ j, j < w.heap.size + 5 → some j ≠ pv.ownBlock := fun j hj e => by have := hr j e.symm; omega
  have gx := (hg.block (w.heap.size + 2) (hlt14 m.x) (hne _ (by omega))).trans m.x
  refine ⟨⟨(heap_setCell_other _ _ _ _ (show w.heap.size ≠ w.heap.size + 2 by omega)).trans ((hg.block _ (hlt14 m.res) (hne _ (by omega))).trans m.res), (heap_setCell_other _ _ _ _ (show w.heap.size + 1 ≠ w.heap.size + 2 by omega)).trans ((hg.block _ (hlt14 m.pc) (hne _ (by omega))).trans m.pc), ?_,
    (heap_setCell_other _ _ _ _ (show w.heap.size + 3 ≠ w.heap.size + 2 by omega)).trans ((hg.block _ (hlt14 m.sb) (hne _ (by omega))).trans m.sb), (heap_setCell_other _ _ _ _ (show w.heap.size + 4 ≠ w.heap.size + 2 by omega)).trans ((hg.block _ (hlt14 m.nb) (hne _ (by omega))).trans m.nb),
    ownsRow_setCell_below ho (show w.heap.size + 2 < w.heap.size + 5 by omega) _, (m.below.grown hg m.below.size (fun k e => by have := hr k e; omega)).setCell (p := ⟨w.heap.size + 2, 0, none⟩) (show w.heap.size ≤ w.heap.size + 2 by omega) _⟩, ?_, gx⟩
  · exact heap_setCell_same W' (w.heap.size + 2) 0 _ _ v gx
  · refine (KeepsOthers.of_grownBy hg fun j o ej hj => ?_).trans (KeepsOthers.setCell _ _ _)
    rcases m.own.2 with ⟨rfl, _⟩ | ⟨gg, cap, cur, rfl, hb, hgg, rest⟩
    · simp [Value.ownBlock] at ej
    · obtain rfl : gg = j := by simpa [Value.ownBlock] using ej
      rw [hgg] at hj; cases hj; rfl
theorem PsM.kps (m : PsM s w L cap base pv path W) {v : Value} {p : List ByteArray} (m' : PsM s w L cap base v p W') (hs : W.heap.size ≤ W'.heap.size) : KpS w.heap.size [w.heap.size + 3, w.heap.size + 4] W W' :=
  ⟨⟨m'.below.os.trans m.below.os.symm, m'.below.tape.trans m.below.tape.symm, m'.below.output.trans m.below.output.symm, hs, fun i hi => (m'.below.block i hi).trans (m.below.block i hi).symm⟩, fun B hB o ho => by
    rcases List.mem_cons.1 hB with rfl | hB
    · rw [show W.heap[w.heap.size + 3]? = _ from m.sb] at ho; cases ho; exact m'.sb
    · obtain rfl := List.mem_singleton.1 hB
      rw [show W.heap[w.heap.size + 4]? = _ from m.nb] at ho; cases ho; exact m'.nb⟩
end
theorem ps_end {w X : World} {D : Nat} {pv ev : Value} {b : ByteArray} {P : List ByteArray} {fn : Func} {tmps : Array Value} (hfn : fn.results = #[.cell 2 65, .tmp 3]) (h2 : tmps.getD 2 undef = .pointer (some ⟨w.heap.size, 0, none⟩)) (h3 : tmps.getD 3 undef = ev)
    (hr : X.heap[w.heap.size]? = some (.cells (trC pv b) 65 (0, 0))) (hs : SsIn X pv P) (hb : Below w.heap.size w X) (hD : w.heap.size < D) (hK : X.heap[D]? = some (.deferred (some []))) :
    ∃ x, (results fn tmps).run Tryz.prog (X.putObj D (.deferred none)) = .ok x (X.putObj D (.deferred none)) ∧ ∃ pv, Ending.returned x = .returned (.tuple #[.agg (trC pv b), ev]) ∧ SsIn (X.putObj D (.deferred none)) pv P ∧ Below w.heap.size w (X.putObj D (.deferred none)) := by
  have hr2 : (X.putObj D (.deferred none)).heap[w.heap.size]? = some (.cells (trC pv b) 65 (0, 0)) := (World.putObj_heap_other (by omega)).trans hr
  refine ⟨_, results_cell_tmp_row hfn _ _ w.heap.size 65 _ (0, 0) _ h2 hr2 Tryz.underlying65 rfl (by kernel_rfl), pv, by rw [h3], ?_, hb.trans ((belowK_b (w := w) (Nat.le_refl _) _ D _ _ (by omega) hK rfl rfl).mono (Nat.le_refl _))⟩
  obtain ⟨a, c, rfl, h4, h5, h6⟩ := hs
  refine ⟨a, c, rfl, h4, h5, h6.imp id ?_⟩
  rintro ⟨ab, ao, rfl, hlt, hx⟩
  have hsz : (X.putObj D (.deferred none)).heap.size = X.heap.size := by simp [World.putObj]
  refine ⟨ab, ao, rfl, by rw [hsz]; exact hlt, fun i s hi => ?_⟩
  have hc := hx i s hi
  have hne : ab ≠ D := fun e => by
    subst e
    unfold World.cell? at hc
    simp [hK] at hc
  have h7 : (X.putObj D (.deferred none)).heap[ab]? = X.heap[ab]? := World.putObj_heap_other hne
  unfold World.cell? at hc ⊢
  simpa [h7] using hc
set_option maxHeartbeats 8000000 in
theorem cparse_any (s : ByteArray) (w : World) (hs : s.size ≤ 4194304) :
    Calls Tryz.prog 35 #[.string s] w fun e w' => ∃ pv, e = .returned (.tuple #[.agg (trC pv (parB s)), errV (parE s)]) ∧ SsIn w' pv (parP s) ∧ Below w.heap.size w w' := by
  have HSP := Lib.hid (fun w => csplit2_any s w hs)
  have HIN := Lib.hid (fun W g h => parts_in s (W := W) (g := g) (fr := (0, 0)) h)
  have hpl := parts_pos s
  have hpe := parts_le s
  have hcp := parts_cap s
  obtain ⟨N, hN⟩ : ∃ n, n = (partsS s).length := ⟨_, rfl⟩
  obtain ⟨cap, hcap⟩ : ∃ n, n = capS s := ⟨_, rfl⟩
  obtain ⟨L, hL⟩ : ∃ L, N = L + 1 := ⟨N - 1, by omega⟩
  have HNL := Lib.hid (show (partsS s).length = L + 1 ∧ capS s = cap ∧ L + 1 ≤ cap ∧ L ≤ 16 from ⟨by omega, hcap.symm, by omega, by omega⟩)
  have hc17 : cap ≤ 17 := by rw [hcap]; unfold capS; omega
  rw [HNL.out.1, ← hcap] at HSP
  have HBA := Lib.hid (show (partsS s)[L]? = some (parBase s) from by
    unfold parBase
    rw [HNL.out.1, Nat.add_sub_cancel, List.getElem?_eq_getElem (by rw [HNL.out.1]; omega)]
    rfl)
  have hcapI : L + 1 ≤ cap := HNL.out.2.2.1
  have hL16 : L ≤ 16 := HNL.out.2.2.2
  have hwr : wrap64 (L : Int) = (L : Int) := by unfold wrap64; omega
  clear hN hcap hL hpl hpe hcp
  refine (callsIn_wide (n := 5)).1 ?_
  refine callsIn_of_wp_marks Tryz.func35 rfl trivial ?_ rfl
  simp only [Tryz.ntmps35, List.size_toArray, List.length_cons, List.length_nil, Nat.reduceAdd, Nat.reduceSub, Array.replicate_succ, Array.replicate_zero, List.push_toArray, List.append_toArray, List.nil_append, List.cons_append]
  refine wpIn_wide.2 ?_
  go_upto_region 1 with (fail)
  go_upto_region 2 with (go_at_call 86; (with_reducible refine (HSP.out _).mono ?_); rintro e w2 ⟨rfl, hw⟩; have HW := Lib.hid hw; clear hw)
  have HG := Lib.hid (show w2.heap[w.heap.size + 1]? = some (.cells (cellsS s) 9 (0, 0)) from by
    have h := heap_alloc_new (w.alloc (.cells #[.slice none 0 0, .string { data := #[] }] 65)) (.cells (cellsS s) 9)
    rw [World.size_alloc] at h
    rw [HW.out]; exact h)
  have HQ := Lib.hid (show w2.heap[w.heap.size]? = some (.cells (trC (.slice none 0 0) { data := #[] }) 65 (0, 0)) from by
    rw [HW.out]; exact (heap_alloc_old _ _ _ (by simp)).trans (heap_alloc_new _ _))
  have HB2 := Lib.hid (show Below w.heap.size w w2 from by rw [HW.out]; exact (below_alloc _ _).alloc (by simp) _)
  have HZ2 := Lib.hid (show w2.heap.size = w.heap.size + 2 from by rw [HW.out]; simp)
  clear HW HSP
  have c0 : w2.cell? ⟨w.heap.size + 1, L, none⟩ = some (.string (parBase s)) := by have := cell_of_ss (HIN.out w2 _ HG.out (L + 1) (by rw [HNL.out.1]; exact Nat.le_refl _)) HBA.out; rwa [Nat.zero_add] at this
  go_upto_region 4 with (fail)
  clear c0
  have hT := heap_alloc_new w2 (.cells (trC (.slice none 0 0) (parBase s)) 65)
  have hb3 := HB2.out.alloc (by have := HZ2.out; omega) (.cells (trC (.slice none 0 0) (parBase s)) 65)
  have hG3 := (heap_alloc_old w2 (.cells (trC (.slice none 0 0) (parBase s)) 65) _ (by have := HZ2.out; omega)).trans HG.out
  have hQ3 := (heap_alloc_old w2 (.cells (trC (.slice none 0 0) (parBase s)) 65) _ (by have := HZ2.out; omega)).trans HQ.out
  have hz3 : (w2.alloc (.cells (trC (.slice none 0 0) (parBase s)) 65)).heap.size = w.heap.size + 3 := by simp [HZ2.out]
  rw [HZ2.out] at hT
  simp only [HZ2.out]
  show Code.wp _ _ _ _ (w2.alloc (.cells (trC (.slice none 0 0) (parBase s)) 65))
  generalize w2.alloc (.cells (trC (.slice none 0 0) (parBase s)) 65) = w3 at *
  clear HG HQ HB2 HZ2
  have HT := Lib.hid hT
  have HB3 := Lib.hid hb3
  have HG := Lib.hid hG3
  have HQ := Lib.hid hQ3
  have HZ := Lib.hid hz3
  clear hT hb3 hG3 hQ3 hz3 w2
  go_wp2_with (go_at_call 87; (with_reducible refine (mkChunk _ _ _ _ _ rfl).mono ?_); rintro e w4 ⟨rfl, rfl⟩)
  have M0 : PsM s w L cap (parBase s) (.slice none 0 0) [] ((w3.alloc (.cells #[.slice (some ⟨w.heap.size + 1, 0, none⟩) L cap] 60)).alloc (.cells #[.int .i64 2] 3)) := by
    have h1 := heap_alloc_new w3 (.cells #[.slice (some ⟨w.heap.size + 1, 0, none⟩) L cap] 60)
    have h2 := heap_alloc_new (w3.alloc (.cells #[.slice (some ⟨w.heap.size + 1, 0, none⟩) L cap] 60)) (.cells #[.int .i64 2] 3)
    have hz := HZ.out
    have hba := (below_alloc w3 (.cells #[.slice (some ⟨w.heap.size + 1, 0, none⟩) L cap] 60)).alloc (by simp) (.cells #[.int .i64 2] 3)
    have hk : ∀ {j : Nat} {o : Obj}, w3.heap[j]? = some o → ((w3.alloc (.cells #[.slice (some ⟨w.heap.size + 1, 0, none⟩) L cap] 60)).alloc (.cells #[.int .i64 2] 3)).heap[j]? = some o := fun h => (hba.block _ (hlt14 h)).trans h
    rw [World.size_alloc] at h2
    rw [hz] at h1 h2
    exact ⟨hk HQ.out, hk HG.out, hk HT.out, (heap_alloc_old _ _ _ (by rw [World.size_alloc]; omega)).trans h1, h2, World.ownsRow_nil _ _ _ _, HB3.out.trans (hba.mono HB3.out.size)⟩
  have hsz0 : ((w3.alloc (.cells #[.slice (some ⟨w.heap.size + 1, 0, none⟩) L cap] 60)).alloc (.cells #[.int .i64 2] 3)).heap.size = w.heap.size + 5 := by simp [HZ.out]
  simp only [HZ.out]
  generalize (w3.alloc (.cells #[.slice (some ⟨w.heap.size + 1, 0, none⟩) L cap] 60)).alloc (.cells #[.int .i64 2] 3) = W0 at *
  clear HQ HG HT HB3 HZ w3
  have HM := Lib.hid M0
  have HSZ := Lib.hid hsz0
  clear M0 hsz0
  obtain ⟨PL, hPL⟩ : ∃ l, l = (partsS s).take L := ⟨_, rfl⟩
  have HPL := Lib.hid hPL
  have HPP := Lib.hid (show PL.length = L from by rw [hPL, List.length_take, HNL.out.1]; omega)
  have HPA := Lib.hid (show parPath s = (List.range ((L + 1) / 2)).map (fun j => joinS (ckL PL j)) from by unfold parPath; rw [HNL.out.1, Nat.add_sub_cancel, hPL])
  have HSI := Lib.hid (show ∀ W, W.heap[w.heap.size + 1]? = some (.cells (cellsS s) 9 (0, 0)) → ∀ j, SsIn W (ckV (w.heap.size + 1) 0 L j) (ckL PL j) from fun W h j => by
    have h2 := HIN.out W _ h L (by rw [HNL.out.1]; omega)
    rw [← HPL.out] at h2
    have h3 := ck_in (cap := capS s) (by rw [HPP.out]; exact h2) (hlt14 h) j
    rwa [HPP.out] at h3)
  have HSB := Lib.hid (show ∀ y ∈ PL, y.size ≤ 4194304 from fun y hy => by
    rw [hPL] at hy
    exact Nat.le_trans (piece_size s slash _ s (Nat.le_refl _) y (List.mem_of_mem_take hy)) hs)
  have HPB := Lib.hid (show ∀ y ∈ parPath s, y.size ≤ 9223372036854775806 from fun y hy => by
    rw [HPA.out] at hy
    obtain ⟨j, -, rfl⟩ := List.mem_map.1 hy
    refine Nat.le_trans (joinS_small _ 4194304 (by unfold ckL; rw [List.length_take]; omega) fun y hy => HSB.out y (List.mem_of_mem_drop (List.mem_of_mem_take hy))) (by omega))
  have HPB2 := Lib.hid (show (parBase s).size ≤ 9223372036854775807 from Nat.le_trans (piece_size s slash _ s (Nat.le_refl _) _ (List.mem_of_getElem? HBA.out)) (by omega))
  clear hPL
  refine (wpIn_wide (n := 5)).1 ?_
  have hD : w.heap.size ≤ W0.heap.size := by have := HSZ.out; omega
  refine wpIn_rangeFunc_ownF rfl (by omega) (gf := 136) (lb := #[.pointer (some ⟨w.heap.size + 3, 0, none⟩), .pointer (some ⟨w.heap.size + 4, 0, none⟩)]) rfl trivial (enters_of Tryz.func136 (by kernel_rfl) rfl)
    (show SeqStopsK Fence.wide (5 - 1) Tryz.prog 136 #[.pointer (some ⟨w.heap.size + 3, 0, none⟩), .pointer (some ⟨w.heap.size + 4, 0, none⟩)] (fun x : Nat => #[ckV (w.heap.size + 1) 0 L x]) (KpS w.heap.size [w.heap.size + 3, w.heap.size + 4]) (fun ys => ys = List.range ((L + 1) / 2)) (fun pre => pre <+: List.range ((L + 1) / 2)) ((L + 1) / 2) W0 from
      fun l J Jx W hW hJ _ hY h0 => chunk_in l w.heap.size [w.heap.size + 3, w.heap.size + 4] J Jx L (w.heap.size + 1) 0 cap (w.heap.size + 3) (w.heap.size + 4) (5 - 1) W ((hW.block _ (hlt14 HM.out.sb)).trans HM.out.sb) ((hW.block _ (hlt14 HM.out.nb)).trans HM.out.nb) hJ (by omega) (by omega) (by simp) (by simp) hY h0)
    KpS.trans (KpS.obj hD (fun B hB => by have := HSZ.out; simp only [List.mem_cons, List.not_mem_nil, or_false] at hB; omega)) (Below.refl _ _) (fun _ => rfl)
    (fun pre W => ∃ pv, PsM s w L cap (parBase s) pv (pre.map fun j => joinS (ckL PL j)) W)
    (fun c pre W => False)
    (fun pre X Y row h hg hr => by obtain ⟨pv, M⟩ := h; exact ⟨pv, M.ownF hD hg hr⟩)
    (fun c pre X Y row h hg hr => h.elim)
    ⟨_, HM.out⟩
    (fun x : Nat => { tmps := #[.string s, undef, .pointer (some ⟨w.heap.size, 0, none⟩), .nilIface, .slice (some ⟨w.heap.size + 1, 0, none⟩) (L + 1) cap, .int .i64 (L : Int), .pointer (some ⟨w.heap.size + 2, 0, none⟩), ckV (w.heap.size + 1) 0 L x, undef, .string s, .slice (some ⟨w.heap.size + 1, 0, none⟩) (L + 1) cap, .slice (some ⟨w.heap.size + 1, 0, none⟩) (L + 1) cap, .int .i64 ((L : Int) + 1), .int .i64 (L : Int), .slice (some ⟨w.heap.size + 1, 0, none⟩) (L + 1) cap, .int .i64 (L : Int), .pointer (some ⟨w.heap.size + 1, L, none⟩), .string (parBase s), .agg #[.slice none 0 0, .string (parBase s)], .slice (some ⟨w.heap.size + 1, 0, none⟩) (L + 1) cap, .int .i64 (L : Int), .slice (some ⟨w.heap.size + 1, 0, none⟩) L cap, .func (.func 136) #[] #[.pointer (some ⟨w.heap.size + 3, 0, none⟩), .pointer (some ⟨w.heap.size + 3 + 1, 0, none⟩)], ckV (w.heap.size + 1) 0 L x, undef, undef, undef, undef, undef, undef, undef, undef, undef, undef, undef, undef, undef, undef], defers := [] })
    ?assign ?body ?done ?stop
  case stop => intro D c pre W _ _ h; exact h.elim
  case assign =>
    intro l x W K hK
    gi_wp2
    exact hK
  case body =>
    rintro l pre x W ⟨pv, M⟩ hlt
    have HLT := Lib.hid (show (pre.map fun j => joinS (ckL PL j)).length < 8 from by
      rw [List.length_map]
      have := HNL.out.2.2.2
      have h2 : (L + 1) / 2 ≤ 8 := by omega
      exact Nat.lt_of_lt_of_le hlt h2)
    obtain ⟨pa, pc, rfl⟩ := M.wide
    obtain ⟨n, hn⟩ : ∃ n, n = (pre.map fun j => joinS (ckL PL j)).length := ⟨_, rfl⟩
    rw [← hn] at M
    have HN := Lib.hid hn
    have M1 := Lib.hid M
    have M2 := Lib.hid (M.call (Below.refl _ W).drew)
    obtain ⟨R, hR⟩ : ∃ r, r = joinS (ckL PL x) := ⟨_, rfl⟩
    have HR := Lib.hid hR
    have HJN := Lib.hid (show ∀ W, W.heap[w.heap.size + 1]? = some (.cells (cellsS s) 9 (0, 0)) → Calls Tryz.prog 81 #[ckV (w.heap.size + 1) 0 L x, .string { data := #[47] }] W fun e w' => e = .returned (.string R) ∧ Below W.heap.size W w' from fun W h => by
      have hl2 : (ckL PL x).length ≤ 2 := by unfold ckL; rw [List.length_take]; omega
      rw [hR]; exact cjoin_any _ _ _ (HSI.out _ h x) (by omega) (Nat.le_trans (joinS_small _ 4194304 hl2 fun y hy => HSB.out y (List.mem_of_mem_drop (List.mem_of_mem_take hy))) (by omega)))
    have HKO := Lib.hid (show KeepsOthers W W.drew from KeepsOthers.drew W)
    clear M hn hlt hR hD
    gi_upto_region 6 with (fail)
    refine wpIn_region_T (fun X => X.cell? ⟨w.heap.size + 2, 0, none⟩ = some (.slice pa n pc)) [0, 1, 2, 3, 4, 5, 6] (by kernel_rfl) (by kernel_rfl) (by rintro ⟨a', w', h'⟩; exact h') ?_
    generalize W.drew = W3 at *

    refine anyT_take [7] (i := 0) (v := .pointer (some ⟨w.heap.size + 2, 0, none⟩)) rfl (by kernel_rfl) (by kernel_rfl) (by kernel_rfl) (fun _ _ _ h => h) (by kernel_rfl) (Or.inl ⟨by rfl, fun w' _ => by go_simp⟩) M2.out.c0 ?_
    try simp only [List.getElem_toArray, List.getElem_cons_succ, List.getElem_cons_zero, Act.put, List.setIfInBounds_toArray, List.set_cons_zero, List.set_cons_succ]
    refine anyT_take [7] (i := 2) (v := ckV (w.heap.size + 1) 0 L x) rfl (by kernel_rfl) (by kernel_rfl) (by kernel_rfl) (fun _ _ _ h => h) (by kernel_rfl) (Or.inl ⟨by rfl, fun w' _ => by go_simp⟩) M2.out.c0 ?_
    try simp only [List.getElem_toArray, List.getElem_cons_succ, List.getElem_cons_zero, Act.put, List.setIfInBounds_toArray, List.set_cons_zero, List.set_cons_succ]
    refine anyT_take [7] (i := 1) (v := .slice pa n pc) rfl (by kernel_rfl) (by kernel_rfl) (by kernel_rfl) (fun _ _ _ h => h) (by kernel_rfl) (Or.inl ⟨by rfl, fun w' hS => by have c : w'.cell? ⟨w.heap.size + 2, 0, none⟩ = some (.slice pa n pc) := hS; go_simp⟩) M2.out.c0 ?_
    try simp only [List.getElem_toArray, List.getElem_cons_succ, List.getElem_cons_zero, Act.put, List.setIfInBounds_toArray, List.set_cons_zero, List.set_cons_succ]
    refine anyT_one (i := 3) (by kernel_rfl) rfl (fun K hK => ?_)
    rw [if_pos (by rfl)]
    try simp only [List.getElem_toArray, List.getElem_cons_succ, List.getElem_cons_zero]
    (go_simp; (with_reducible refine (HJN.out _ M2.out.pc).mono ?_); rintro e w4 ⟨rfl, hb⟩; replace M2 := Lib.hid (M2.out.call hb); replace HKO := Lib.hid (HKO.out.trans (show KeepsOthers W3 w4 from ⟨hb.size, fun i o hi _ => (hb.block i (hlt14 hi)).trans hi⟩)); clear hb)
    refine hK _ _ (fun _ => M2.out.c0) ?_
    clear hK K
    try simp only [List.getElem_toArray, List.getElem_cons_succ, List.getElem_cons_zero, Act.put, List.setIfInBounds_toArray, List.set_cons_zero, List.set_cons_succ]
    refine anyT_one (i := 4) (by kernel_rfl) rfl (fun K hK => ?_)
    rw [if_pos (by rfl)]
    try simp only [List.getElem_toArray, List.getElem_cons_succ, List.getElem_cons_zero]
    (refine wp_str1 (.tmp 27) rfl R rfl ?_; have H28 := Lib.hid (heap_alloc_new w4 (.cells #[.string R] 9)); replace M2 := Lib.hid (M2.out.call (below_alloc w4 (.cells #[.string R] 9))); replace HKO := Lib.hid (HKO.out.trans (KeepsOthers.alloc w4 (.cells #[.string R] 9))); obtain ⟨g28, hg28⟩ : ∃ g, g = w4.heap.size := ⟨_, rfl⟩; rw [← hg28] at H28 ⊢; clear hg28; generalize w4.alloc (.cells #[.string R] 9) = w5 at *)
    refine hK _ _ (fun _ => M2.out.c0) ?_
    clear hK K
    try simp only [List.getElem_toArray, List.getElem_cons_succ, List.getElem_cons_zero, Act.put, List.setIfInBounds_toArray, List.set_cons_zero, List.set_cons_succ]
    refine anyT_one (i := 5) (by kernel_rfl) rfl (fun K hK => ?_)
    rw [if_pos (by rfl)]
    try simp only [List.getElem_toArray, List.getElem_cons_succ, List.getElem_cons_zero]
    (refine wp_append_ss (.tmp 25) (.tmp 28) rfl rfl (w.heap.size + 5) (.slice pa n pc) (.slice (some ⟨g28, 0, none⟩) 1 1) (pre.map fun j => joinS (ckL PL j)) [R] rfl M2.out.own rfl (ss_one H28.out) (by have := HLT.out; rw [List.length_singleton]; omega) (hlt14 M2.out.nb) ?_; intro v29 w6 ho hgr _; obtain ⟨va, vl, vc, rfl⟩ : ∃ a n c, v29 = .slice a n c := own_sl14 ho; have HP := Lib.hid (M2.out.push hgr ho); clear ho hgr)
    refine hK _ _ (fun _ => cell_of_row _ _ _ _ _ _ HP.out.2.2) ?_
    clear hK K
    try simp only [List.getElem_toArray, List.getElem_cons_succ, List.getElem_cons_zero, Act.put, List.setIfInBounds_toArray, List.set_cons_zero, List.set_cons_succ]
    refine anyT_take [7] (i := 6) (v := .pointer (some ⟨w.heap.size + 2, 0, none⟩)) rfl (by kernel_rfl) (by kernel_rfl) (by kernel_rfl) (fun _ _ _ h => h) (by kernel_rfl) (Or.inl ⟨by rfl, fun w' _ => by go_simp⟩) (cell_of_row _ _ _ _ _ _ HP.out.2.2) ?_
    try simp only [List.getElem_toArray, List.getElem_cons_succ, List.getElem_cons_zero, Act.put, List.setIfInBounds_toArray, List.set_cons_zero, List.set_cons_succ]
    refine anyT_one (i := 7) (by kernel_rfl) rfl (fun K hK => ?_)
    rw [if_pos (by rfl)]
    try simp only [List.getElem_toArray, List.getElem_cons_succ, List.getElem_cons_zero]
    (have k1 : w6.cell? ⟨w.heap.size + 2, 0, none⟩ = some (.slice pa n pc) := cell_of_row _ _ _ _ _ _ HP.out.2.2; have k2 : w6.frozen? ⟨w.heap.size + 2, 0, none⟩ = false := frozen_of_row _ _ _ _ _ HP.out.2.2; go_simp; clear k1 k2)
    refine hK _ _ (not_mem rfl) ?_
    clear hK K
    try simp only [List.getElem_toArray, List.getElem_cons_succ, List.getElem_cons_zero, Act.put, List.setIfInBounds_toArray, List.set_cons_zero, List.set_cons_succ]
    refine anyT_done (by kernel_rfl) ?_ _
    gi_wp2
    have hko := HKO.out.trans HP.out.2.1
    exact ⟨hko, M1.out.kps HP.out.1 hko.size, _, by rw [List.map_append, List.map_singleton, ← HR.out]; exact HP.out.1⟩
  case done =>
    rintro D ys W hD1 rfl ⟨pv, M⟩ hK
    rw [← HPA.out] at M
    obtain ⟨pa, pc, rfl⟩ := M.wide
    have HM2 := Lib.hid M
    have HK := Lib.hid hK
    have HPL2 := Lib.hid (show (parPath s).length ≤ 8 from by rw [HPA.out, List.length_map, List.length_range]; omega)
    have HSI2 := Lib.hid (show SsIn W (.slice pa (parPath s).length pc) (parPath s) from ss_own M.own (Nat.le_trans HPL2.out (by unfold maxLen; omega)))
    have HCT := Lib.hid (show ∀ w2, Below W.heap.size W w2 → Calls Tryz.prog 80 #[.agg (trC (.slice pa (parPath s).length pc) (parBase s))] w2 fun e w' => e = .returned (errV (parE s)) ∧ Below w2.heap.size w2 w' from fun w2 hb => ctrace_any (parPath s) (parBase s) _ w2 (HSI2.out.below hb) (Nat.le_trans HPL2.out (by omega)) (fun x hx => HPB.out x hx) (HPB2.out))
    obtain ⟨E, hE⟩ : ∃ e, e = parE s := ⟨_, rfl⟩
    have HE := Lib.hid hE
    rw [← hE] at HCT
    have HD1 := Lib.hid (show w.heap.size < D from by have := HSZ.out; omega)
    clear M hK hE hD1
    cases E with
    | some e =>
      go_wp2_with (first
        | (refine wpList_load_row rfl 65 (.tmp 6) rfl (w.heap.size + 2) rfl 65 _ (0, 0) _ HM2.out.x Tryz.underlying65 rfl (by kernel_rfl) ?_)
        | (go_at_call 80; (with_reducible refine (HCT.out _ (Below.refl _ _)).mono ?_); rintro e w2 ⟨rfl, hb⟩; have HB := Lib.hid hb; have M3 := Lib.hid (HM2.out.call hb); have k1 := M3.out.c0; clear hb; simp only [errV])
        | (refine wpList_store_row rfl 65 (.tmp 2) (.tmp 35) rfl w.heap.size (trC (.slice none 0 0) { data := #[] }) rfl rfl 65 _ M3.out.res (by kernel_rfl) (by rfl) (trC_one _ _ _ _) ?_))
      have hR3 : (w2.setRow w.heap.size (trC (.slice none 0 0) { data := #[] })).heap[w.heap.size]? = some (.cells (trC (.slice none 0 0) { data := #[] }) 65 (0, 0)) := setRow_heap _ _ _ _ _ _ M3.out.res
      have hD2 : w.heap.size < D := HD1.out
      have hKf : (w2.setRow w.heap.size (trC (.slice none 0 0) { data := #[] })).heap[D]? = some (.deferred (some [])) := (setRow_other _ _ _ _ (by omega)).trans ((HB.out.block D (hlt14 HK.out)).trans HK.out)
      have hbX : Below w.heap.size w (w2.setRow w.heap.size (trC (.slice none 0 0) { data := #[] })) := ⟨M3.out.below.os, M3.out.below.tape, M3.out.below.output, by rw [show (w2.setRow w.heap.size (trC (.slice none 0 0) { data := #[] })).heap.size = w2.heap.size from by simp [World.setRow]]; exact M3.out.below.size, fun k hk => (setRow_other _ _ _ _ (by omega)).trans (M3.out.below.block k hk)⟩
      refine ⟨by simp, .inl ⟨_, _, rfl, run_takeDeferred hKf, ?_⟩⟩
      have e1 : parP s = [] := by unfold parP; rw [if_neg (by rw [← HE.out]; simp)]
      have e2 : parB s = { data := #[] } := by unfold parB; rw [if_neg (by rw [← HE.out]; simp)]
      rw [e1, e2, ← HE.out]
      exact ps_end rfl rfl rfl hR3 (ss_nil _) hbX hD2 hKf
    | none =>
      go_wp2_with (first
        | (refine wpList_load_row rfl 65 (.tmp 6) rfl (w.heap.size + 2) rfl 65 _ (0, 0) _ (by first | exact HM2.out.x | exact M3.out.x) Tryz.underlying65 rfl (by kernel_rfl) ?_)
        | (go_at_call 80; (with_reducible refine (HCT.out _ (Below.refl _ _)).mono ?_); rintro e w2 ⟨rfl, hb⟩; have HB := Lib.hid hb; have M3 := Lib.hid (HM2.out.call hb); clear hb; simp only [errV])
        | (refine wpList_store_row rfl 65 (.tmp 2) (.tmp 37) rfl w.heap.size (trC (.slice pa (parPath s).length pc) (parBase s)) rfl rfl 65 _ M3.out.res (by kernel_rfl) (by rfl) (trC_one _ _ _ _) ?_))
      have hR3 : (w2.setRow w.heap.size (trC (.slice pa (parPath s).length pc) (parBase s))).heap[w.heap.size]? = some (.cells (trC (.slice pa (parPath s).length pc) (parBase s)) 65 (0, 0)) := setRow_heap _ _ _ _ _ _ M3.out.res
      have hD2 : w.heap.size < D := HD1.out
      have hKf : (w2.setRow w.heap.size (trC (.slice pa (parPath s).length pc) (parBase s))).heap[D]? = some (.deferred (some [])) := (setRow_other _ _ _ _ (by omega)).trans ((HB.out.block D (hlt14 HK.out)).trans HK.out)
      have hbX : Below w.heap.size w (w2.setRow w.heap.size (trC (.slice pa (parPath s).length pc) (parBase s))) := ⟨M3.out.below.os, M3.out.below.tape, M3.out.below.output, by rw [show (w2.setRow w.heap.size (trC (.slice pa (parPath s).length pc) (parBase s))).heap.size = w2.heap.size from by simp [World.setRow]]; exact M3.out.below.size, fun k hk => (setRow_other _ _ _ _ (by omega)).trans (M3.out.below.block k hk)⟩
      refine ⟨by simp, .inl ⟨_, _, rfl, run_takeDeferred hKf, ?_⟩⟩
      have e1 : parP s = parPath s := by unfold parP; rw [if_pos HE.out.symm]
      have e2 : parB s = parBase s := by unfold parB; rw [if_pos HE.out.symm]
      rw [e1, e2, ← HE.out]
      exact ps_end rfl rfl rfl hR3 ((HSI2.out.below HB.out).only (only_setRow14 _ _ _) (fun k hk => by have := (M3.out.own.lt k hk).1; omega)) hbX hD2 hKf
end Go.Proofs.YteokgklfljhcaaaGreatDoor

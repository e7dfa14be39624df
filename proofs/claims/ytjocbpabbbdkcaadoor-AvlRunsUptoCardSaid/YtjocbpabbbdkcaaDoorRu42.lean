/- Part 42 of the proof. -/
import Derived.Test.YtjocbpabbbdkcaaDoorRu18
import Derived.Test.YtjocbpabbbdkcaaDoorRu40
import Derived.Test.YtjocbpabbbdkcaaDoorRu41
namespace Go.Proofs.YtjocbpabbbdkcaaDoor
set_option linter.unusedVariables false
set_option linter.unusedSimpArgs false
open Go.RowKit
set_option maxRecDepth 100000
set_option linter.unusedSimpArgs false
set_option linter.unusedVariables false
theorem infoSt7 : (Tryd.prog.info? 53).map (fun i => (i.zero, i.size, i.bytes)) = some (some (.agg (stC ⟨false, 0, fun _ => 0⟩)), 34, 48) := by kernel_rfl
theorem wpList_append7 {w : World} {ops : Array Oper} {rest : List Oper} {o : Oper} {a : Act} {Q : Exit → Act → World → Prop} (hgd : o.guard = none) (s x : Operand)
    (ho : o.op = .call { callee := .builtin .append, args := #[s, x], argTypes := #[45, 45] }) (hty : o.type = 45)
    (base : Nat) (v : Value) (l : List AvS) (hs : a.eval s = v) (hown : w.ownsRow base 53 34 v l.length (flatSt l)) (b : Nat) (st : AvS) (hx : a.eval x = .slice (some ⟨b, 0, none⟩) 1 1) (hy : w.heap[b]? = some (.cells (stC st) 53 (0, 0))) (hl : (l.length + 1) * 48 ≤ 140737488355328) (hb : base ≤ w.heap.size)
    (h : ∀ v' w', w'.ownsRow base 53 34 v' (l ++ [st]).length (flatSt (l ++ [st])) → w.grownBy w' v.ownBlock → wpList Tryd.prog ops Q rest (a.put o.dst v') w') : wpList Tryd.prog ops Q (o :: rest) a w := by
  refine wpList_plain hgd fun K hK => ?_
  obtain ⟨i0, hi, hz0, hz1, hz2⟩ := info_parts infoSt7
  obtain ⟨v', w', hr, h1, h2, _, _⟩ := run_append_own_at w base 45 45 53 i0 _ 34 48 Tryd.underlying45 hi hz0 hz1 hz2 (by simp [Value.cells, stC_size]) (by decide) v l.length (flatSt l) hown ⟨b, 0, none⟩ 1 1 st.cells (by rw [AvS.cells_length])
    (fun j u hj => by rw [Addr.add_mid, Nat.zero_add, cell_of_row w b j _ _ _ hy]; simpa [AvS.cells] using hj) st.cells_one (by unfold maxLen; omega) hl hb
  unfold Oper.wp execOp
  simp only [ho, hty, resolve, invoke, builtin, Sem.run_bind, Sem.run_pure, Result.andThen_ok, List.map_toArray, List.map_cons, List.map_nil, hs, hx, hr]
  exact hK _ _ (h v' w' (by rw [List.length_append, flatSt_append, show flatSt [st] = st.cells from by simp [flatSt]]; exact h1) h2)
theorem st7_fill (s : AvS) : Instr.fill (fun i => some (i * 34, 34)) ((Array.range (1 * 34)).map ((Value.agg (stC ⟨false, 0, fun _ => 0⟩)).cells[· % (Value.agg (stC ⟨false, 0, fun _ => 0⟩)).cells.size]!)) [(0, .agg (stC s))] = some (stC s) := by kernel_rfl
theorem wpList_step7 {w : World} {ops : Array Oper} {rest : List Oper} {o : Oper} {a : Act} {Q : Exit → Act → World → Prop} (hgd : o.guard = none) (x : Operand) (ho : o.op = .buildSlice 45 1 #[(0, x)]) (s : AvS) (hx : a.eval x = .agg (stC s))
    (h : wpList Tryd.prog ops Q rest (a.put o.dst (.slice (some ⟨w.heap.size, 0, none⟩) 1 1)) (w.alloc (.cells (stC s) 53))) : wpList Tryd.prog ops Q (o :: rest) a w := by
  refine wpList_plain hgd fun K hK => ?_
  obtain ⟨i0, hi, hz0, hz1, hz2⟩ := info_parts infoSt7
  refine wp_buildSlice 45 53 1 #[(0, x)] ho (stC s) i0 _ Tryd.underlying45 hi hz0 (by rw [hz1]; decide) (by rw [hz1]; decide) ?_ (hK _ _ h)
  rw [hz1]
  simpa [hx] using st7_fill s
theorem st7_built (b : Bool) (m : Int) (F : Nat → Int) : Tryd.prog.built 53 [(0, .bool b), (1, .int .i64 m), (2, .agg (rowOf .u8 32 F))] = some (stC ⟨b, m, F⟩) := by kernel_rfl
theorem wpList_built {P : Program} {ops : Array Oper} {rest : List Oper} {o : Oper} {a : Act} {w : World} {Q : Exit → Act → World → Prop} (hg : o.guard = none) (t : TypeId) (parts : Array (Nat × Operand)) (ho : o.op = .build t parts) (cells : Array Value)
    (hf : P.built t (parts.map fun (i, x) => (i, a.eval x)).toList = some cells)
    (h : wpList P ops Q rest (a.put o.dst (.agg cells)) w) : wpList P ops Q (o :: rest) a w :=
  wpList_build hg t parts ho (by rw [hf]; rfl) (by rw [hf]; exact h)
theorem path_len7 : ∀ (t : AvT) (i : Nat), (t.path i).length + 1 ≤ t.many
  | .leaf k v, i => by simp [AvT.path, AvT.many]
  | .node a b, i => by
    have ha := path_len7 a i
    have hb := path_len7 b (i - a.many)
    have pa := a.many_pos
    have pb := b.many_pos
    unfold AvT.path
    simp only [AvT.many]
    split <;> rw [List.length_append, List.length_singleton] <;> omega
def P7Post (l : List AvS) (c : Int) (w : World) (e : Ending) (w' : World) : Prop := ∃ v, e = .returned (.tuple #[v, .int .i64 c]) ∧ w'.ownsRow w.heap.size 53 34 v l.length (flatSt l) ∧ Below w.heap.size w w'
/-- what lies in memory while the reference makes a path -/
structure PtM (w w' : World) (ca cb : Array Value) (a b : AvT) (g7 g8 : Nat) : Prop where
  below : Below w.heap.size w w'
  h7 : w'.heap[g7]? = some (.cells ca 28 (0, 0))
  h8 : w'.heap[g8]? = some (.cells cb 28 (0, 0))
  ta : RT w' ca a
  tb : RT w' cb b
theorem PtM.call {w w' w2 : World} {ca cb : Array Value} {a b : AvT} {g7 g8 : Nat} (m : PtM w w' ca cb a b g7 g8) (h : Below w'.heap.size w' w2) : PtM w w2 ca cb a b g7 g8 :=
  ⟨m.below.trans (h.mono m.below.size), (h.block _ (blk_lt m.h7)).trans m.h7, (h.block _ (blk_lt m.h8)).trans m.h8, m.ta.below h, m.tb.below h⟩
theorem rPath_no (t : Option AvT) (cs : Array Value) (i : Int) (w : World) (h : RO w cs t) (hm : manyO t ≤ 1048576) (hi : i < 0 ∨ (manyO t : Int) ≤ i) : Calls Tryd.prog 11 #[.agg cs, .int .i64 i] w (P7Post [] 1 w) := by
  have hml := manyO_eq t
  obtain ⟨is, k0, v0, a0, n0, c0', rfl⟩ := h.form
  have HB := Lib.hid (below_alloc w (.cells #[.bool is, .string k0, .string v0, .slice a0 n0 c0'] 28))
  have HP := Lib.hid (heap_alloc_new w (.cells #[.bool is, .string k0, .string v0, .slice a0 n0 c0'] 28))
  have HPS := Lib.hid (rpairs_any t _ _ (h.below HB.out) (by omega))
  obtain ⟨l, hl⟩ : ∃ l, l = pairsO t := ⟨_, rfl⟩
  rw [← hl] at HPS hml
  rw [← hml] at hi
  clear h hl hm hml
  unfold PsPost at HPS
  unfold P7Post
  have key : i < 0 ∨ (¬ i < 0 ∧ (l.length : Int) ≤ i) := by omega
  clear hi
  go_enter Tryd.func11, Tryd.ntmps11
  go_upto_region 1 with (fail)
  generalize w.alloc (.cells #[.bool is, .string k0, .string v0, .slice a0 n0 c0'] 28) = wb at *
  go_upto_region 2 with (first
    | (refine wpList_load_row rfl 28 (.tmp 2) rfl w.heap.size rfl 28 _ (0, 0) _ HP.out Tryd.underlying28 rfl (by kernel_rfl) ?_)
    | (go_at_call 9; (with_reducible refine HPS.out.mono ?_); rintro e w1 ⟨r, rfl, ho, hb⟩; obtain ⟨ra, rc, rfl⟩ := (KVIn.of_own ho).len; replace HB := Lib.hid (HB.out.trans (hb.mono HB.out.size)); replace HP := Lib.hid ((hb.block _ (blk_lt HP.out)).trans HP.out); clear ho hb))
  rcases key with h0 | ⟨h0, h1⟩
  all_goals
    go_wp2_with (fail)
    go_ret2
    exact ⟨_, rfl, World.ownsRow_nil _ _ _ _, HB.out⟩
theorem rPath_leaf (k v : ByteArray) (w : World) : Calls Tryd.prog 11 #[.agg #[.bool true, .string k, .string v, .slice none 0 0], .int .i64 0] w (P7Post [] 0 w) := by
  have HB := Lib.hid (below_alloc w (.cells #[.bool true, .string k, .string v, .slice none 0 0] 28))
  have HP := Lib.hid (heap_alloc_new w (.cells #[.bool true, .string k, .string v, .slice none 0 0] 28))
  have HPS := Lib.hid (rpairs_any (some (.leaf k v)) #[.bool true, .string k, .string v, .slice none 0 0] (w.alloc (.cells #[.bool true, .string k, .string v, .slice none 0 0] 28)) (show RT (w.alloc (.cells #[.bool true, .string k, .string v, .slice none 0 0] 28)) #[.bool true, .string k, .string v, .slice none 0 0] (.leaf k v) from rfl) (by simp [manyO, AvT.many]))
  unfold PsPost at HPS
  unfold P7Post
  rw [show pairsO (some (AvT.leaf k v)) = [(k, v)] from rfl] at HPS
  go_enter Tryd.func11, Tryd.ntmps11
  go_upto_region 1 with (fail)
  generalize w.alloc (.cells #[.bool true, .string k, .string v, .slice none 0 0] 28) = wb at *
  go_upto_region 2 with (first
    | (refine wpList_load_row rfl 28 (.tmp 2) rfl w.heap.size rfl 28 _ (0, 0) _ HP.out Tryd.underlying28 rfl (by kernel_rfl) ?_)
    | (go_at_call 9; (with_reducible refine HPS.out.mono ?_); rintro e w1 ⟨r, rfl, ho, hb⟩; obtain ⟨ra, rc, rfl⟩ := (KVIn.of_own ho).len; replace HB := Lib.hid (HB.out.trans (hb.mono HB.out.size)); replace HP := Lib.hid ((hb.block _ (blk_lt HP.out)).trans HP.out); clear ho hb))
  have cR := r_cells HP.out
  obtain ⟨cR0, cR1, cR2, cR3⟩ := cR
  go_wp2_with (fail)
  go_ret2
  exact ⟨_, rfl, World.ownsRow_nil _ _ _ _, HB.out⟩
set_option maxHeartbeats 8000000 in
theorem rPath_some : ∀ (t : AvT) (cs : Array Value) (i : Nat) (w : World), Env w → RT w cs t → i < t.many → t.many ≤ 1048576 → (∀ p ∈ t.pairs, p.1.size + p.2.size ≤ 1048576) → Calls Tryd.prog 11 #[.agg cs, .int .i64 (i : Int)] w (P7Post (t.path i) 0 w)
  | .leaf k v, cs, i, w, _, hcs, hi, _, _ => by
    obtain rfl := hcs
    simp only [AvT.many] at hi
    obtain rfl : i = 0 := by omega
    exact rPath_leaf k v w
  | .node x y, cs, i, w, he, hcs, hi, hm, hz => by
    have hcs0 := hcs
    simp only [AvT.many] at hi hm
    obtain ⟨bk, cx, cy, rfl, hbk, r1, r2, tx, ty⟩ := hcs
    have HZX := Lib.hid tx.size
    have HZY := Lib.hid ty.size
    have HOX := Lib.hid (RO.one (t := some x) tx)
    have HOY := Lib.hid (RO.one (t := some y) ty)
    have hpx := x.many_pos
    have hpy := y.many_pos
    have HRA := Lib.hid (fun w h1 h2 => rRoot_some x cx w h1 h2 (by omega) (fun p hp => hz p (List.mem_append.2 (.inl hp))))
    have HRB := Lib.hid (fun w h1 h2 => rRoot_some y cy w h1 h2 (by omega) (fun p hp => hz p (List.mem_append.2 (.inr hp))))
    have HPA := Lib.hid (fun w h => rpairs_some x cx w h (by omega))
    have HIA := Lib.hid (fun (hl : i < x.many) w h1 h2 => rPath_some x cx i w h1 h2 hl (by omega) (fun p hp => hz p (List.mem_append.2 (.inl hp))))
    have HIB := Lib.hid (fun (hl : ¬ i < x.many) w h1 h2 => rPath_some y cy (i - x.many) w h1 h2 (by omega) (by omega) (fun p hp => hz p (List.mem_append.2 (.inr hp))))
    have HE := Lib.hid he
    have HB := Lib.hid (below_alloc w (.cells (rC true eBA eBA (.slice (some ⟨bk, 0, none⟩) 2 2)) 28))
    have HP := Lib.hid (heap_alloc_new w (.cells (rC true eBA eBA (.slice (some ⟨bk, 0, none⟩) 2 2)) 28))
    have HPS := Lib.hid (rpairs_some (.node x y) _ (w.alloc (.cells (rC true eBA eBA (.slice (some ⟨bk, 0, none⟩) 2 2)) 28)) (hcs0.below HB.out) (by simp only [AvT.many]; omega))
    have hla : x.pairs.length = x.many := AvT.many_eq x
    have hln : (AvT.node x y).pairs.length = x.many + y.many := AvT.many_eq (.node x y)
    obtain ⟨LN, hLN⟩ : ∃ l, l = (AvT.node x y).pairs := ⟨_, rfl⟩
    obtain ⟨LA, hLA⟩ : ∃ l, l = x.pairs := ⟨_, rfl⟩
    rw [← hLA] at HPA hla
    rw [← hLN] at HPS hln
    have HXY0 := Lib.hid (show RT (w.alloc (.cells (rC true eBA eBA (.slice (some ⟨bk, 0, none⟩) 2 2)) 28)) cx x ∧ RT (w.alloc (.cells (rC true eBA eBA (.slice (some ⟨bk, 0, none⟩) 2 2)) 28)) cy y from ⟨tx.below HB.out, ty.below HB.out⟩)
    have HRR := Lib.hid (show (w.alloc (.cells (rC true eBA eBA (.slice (some ⟨bk, 0, none⟩) 2 2)) 28)).rangeAt bk 0 cx.toList ∧ (w.alloc (.cells (rC true eBA eBA (.slice (some ⟨bk, 0, none⟩) 2 2)) 28)).rangeAt bk 4 cy.toList ∧ bk < (w.alloc (.cells (rC true eBA eBA (.slice (some ⟨bk, 0, none⟩) 2 2)) 28)).heap.size from ⟨range_below r1 HB.out hbk, range_below r2 HB.out hbk, Nat.lt_of_lt_of_le hbk HB.out.size⟩)
    unfold PsPost at HPA HPS
    unfold P7Post at HIA HIB ⊢
    have hiN : ¬ (LN.length : Int) ≤ (i : Int) := by omega
    have hiN2 : (i : Int) < (LN.length : Int) := by omega
    have HLA := Lib.hid hla
    have HLN := Lib.hid hln
    clear he hz hbk r1 r2 tx ty hcs0 hLN hLA hla hln
    go_enter Tryd.func11, Tryd.ntmps11
    go_upto_region 1 with (fail)
    generalize w.alloc (.cells (rC true eBA eBA (.slice (some ⟨bk, 0, none⟩) 2 2)) 28) = wb at *
    go_upto_region 2 with (first
      | (refine wpList_load_row rfl 28 (.tmp 2) rfl w.heap.size rfl 28 _ (0, 0) _ HP.out Tryd.underlying28 rfl (by kernel_rfl) ?_)
      | (go_at_call 9; (with_reducible refine HPS.out.mono ?_); rintro e w1 ⟨r, rfl, ho, hb⟩; obtain ⟨ra, rc, rfl⟩ := (KVIn.of_own ho).len; replace HB := Lib.hid (HB.out.trans (hb.mono HB.out.size)); replace HP := Lib.hid ((hb.block _ (blk_lt HP.out)).trans HP.out); have HXY := Lib.hid (show RT w1 cx x ∧ RT w1 cy y from ⟨HXY0.out.1.below hb, HXY0.out.2.below hb⟩); replace HRR := Lib.hid (show w1.rangeAt bk 0 cx.toList ∧ w1.rangeAt bk 4 cy.toList ∧ bk < w1.heap.size from ⟨range_below HRR.out.1 hb HRR.out.2.2, range_below HRR.out.2.1 hb HRR.out.2.2, Nat.lt_of_lt_of_le HRR.out.2.2 hb.size⟩);clear ho hb))
    have HSX := Lib.hid (show w1.cell? ⟨w.heap.size, 3, none⟩ = some (.slice (some ⟨bk, 0, none⟩) 2 2) ∧ w1.rangeAt bk 0 cx.toList ∧ w1.rangeAt bk 4 cy.toList from ⟨by rw [cell_of_row w1 _ 3 _ _ _ HP.out]; rfl, HRR.out.1, HRR.out.2.1⟩)
    have HBK0 := Lib.hid (show w.heap.size < w1.heap.size ∧ bk < w1.heap.size from ⟨blk_lt HP.out, HRR.out.2.2⟩)
    have M := Lib.hid HB.out
    have c3 := HSX.out.1
    clear HB HP HXY0 HRR HPS
    go_upto_region 6 with (fail)
    go_cut [7, 8] (fun p7 p8 wx => ∃ g7 g8, p7 = .pointer (some ⟨g7, 0, none⟩) ∧ p8 = .pointer (some ⟨g8, 0, none⟩) ∧ Hid (PtM w wx cx cy x y g7 g8))
    case first =>
      refine wp_region_T (fun w' => w'.cell? ⟨w.heap.size, 3, none⟩ = some (.slice (some ⟨bk, 0, none⟩) 2 2) ∧ w'.rangeAt bk 0 cx.toList ∧ w'.rangeAt bk 4 cy.toList) [1, 2, 3, 5, 6, 7, 8, 9, 10] (by kernel_rfl) ?_
      replace M := Lib.hid (show Below w.heap.size w w1.drew from M.out.drew)
      replace HXY := Lib.hid (show RT w1.drew cx x ∧ RT w1.drew cy y from ⟨HXY.out.1.below (Below.refl _ _).drew, HXY.out.2.below (Below.refl _ _).drew⟩)
      replace HSX := Lib.hid (show w1.drew.cell? ⟨w.heap.size, 3, none⟩ = some (.slice (some ⟨bk, 0, none⟩) 2 2) ∧ w1.drew.rangeAt bk 0 cx.toList ∧ w1.drew.rangeAt bk 4 cy.toList from HSX.out)
      have HBK := Lib.hid (show w.heap.size < w1.drew.heap.size ∧ bk < w1.drew.heap.size from HBK0.out)
      generalize w1.drew = w5 at *
      have HKX : Hid (∀ u : World, Below w5.heap.size w5 u → u.cell? ⟨w.heap.size, 3, none⟩ = some (.slice (some ⟨bk, 0, none⟩) 2 2) ∧ u.rangeAt bk 0 cx.toList ∧ u.rangeAt bk 4 cy.toList) := Lib.hid fun u hb => ⟨(hb.cell (p := ⟨w.heap.size, 3, none⟩) HBK.out.1).trans HSX.out.1, range_below HSX.out.2.1 hb HBK.out.2, range_below HSX.out.2.2 hb HBK.out.2⟩
      refine anyT_takeY (i := 0) (v := .pointer (some ⟨w.heap.size, 3, none⟩)) rfl (by kernel_rfl) (by kernel_rfl) (by kernel_rfl) (fun _ _ _ h => h) (by kernel_rfl) (Or.inl ⟨by rfl, by intro w; go_simp⟩) ?_
      try simp only [List.getElem_toArray, List.getElem_cons_succ, List.getElem_cons_zero, Act.put, List.setIfInBounds_toArray, List.set_cons_zero, List.set_cons_succ]
      refine anyT_takeY (i := 4) (v := .pointer (some ⟨w.heap.size, 3, none⟩)) rfl (by kernel_rfl) (by kernel_rfl) (by kernel_rfl) (fun _ _ _ h => h) (by kernel_rfl) (Or.inl ⟨by rfl, by intro w; go_simp⟩) ?_
      try simp only [List.getElem_toArray, List.getElem_cons_succ, List.getElem_cons_zero, Act.put, List.setIfInBounds_toArray, List.set_cons_zero, List.set_cons_succ]
      refine anyT_take [2, 3, 10, 11] (i := 1) (v := .slice (some ⟨bk, 0, none⟩) 2 2) rfl (by kernel_rfl) (by kernel_rfl) (by kernel_rfl) (fun _ _ _ h => h) (by kernel_rfl) (Or.inl ⟨by rfl, fun w' hS => by have c := hS.1; go_simp⟩) HSX.out ?_
      try simp only [List.getElem_toArray, List.getElem_cons_succ, List.getElem_cons_zero, Act.put, List.setIfInBounds_toArray, List.set_cons_zero, List.set_cons_succ]
      refine anyT_take [3, 10, 11] (i := 2) (v := .pointer (some ⟨bk, 0, none⟩)) rfl (by kernel_rfl) (by kernel_rfl) (by kernel_rfl) (fun _ _ _ h => h) (by kernel_rfl) (Or.inl ⟨by rfl, fun w' _ => by go_simp⟩) HSX.out ?_
      try simp only [List.getElem_toArray, List.getElem_cons_succ, List.getElem_cons_zero, Act.put, List.setIfInBounds_toArray, List.set_cons_zero, List.set_cons_succ]
      refine anyT_take [10, 11] (i := 3) (v := .agg cx) rfl (by kernel_rfl) (by kernel_rfl) (by kernel_rfl) (fun _ _ _ h => h) (by kernel_rfl) (agg_mid (by rfl) 28 (.tmp 30) rfl bk 0 rfl _ _ (fun _ h => h.2.1) Tryd.underlying28 rfl (by rw [HZX.out]; kernel_rfl)) HSX.out ?_
      try simp only [List.getElem_toArray, List.getElem_cons_succ, List.getElem_cons_zero, Act.put, List.setIfInBounds_toArray, List.set_cons_zero, List.set_cons_succ]
      refine anyT_take [6, 7, 11] (i := 5) (v := .slice (some ⟨bk, 0, none⟩) 2 2) rfl (by kernel_rfl) (by kernel_rfl) (by kernel_rfl) (fun _ _ _ h => h) (by kernel_rfl) (Or.inl ⟨by rfl, fun w' hS => by have c := hS.1; go_simp⟩) HSX.out ?_
      try simp only [List.getElem_toArray, List.getElem_cons_succ, List.getElem_cons_zero, Act.put, List.setIfInBounds_toArray, List.set_cons_zero, List.set_cons_succ]
      refine anyT_take [7, 11] (i := 6) (v := .pointer (some ⟨bk, 4, none⟩)) rfl (by kernel_rfl) (by kernel_rfl) (by kernel_rfl) (fun _ _ _ h => h) (by kernel_rfl) (Or.inl ⟨by rfl, fun w' _ => by go_simp⟩) HSX.out ?_
      try simp only [List.getElem_toArray, List.getElem_cons_succ, List.getElem_cons_zero, Act.put, List.setIfInBounds_toArray, List.set_cons_zero, List.set_cons_succ]
      refine anyT_take [11] (i := 7) (v := .agg cy) rfl (by kernel_rfl) (by kernel_rfl) (by kernel_rfl) (fun _ _ _ h => h) (by kernel_rfl) (agg_mid (by rfl) 28 (.tmp 34) rfl bk 4 rfl _ _ (fun _ h => h.2.2) Tryd.underlying28 rfl (by rw [HZY.out]; kernel_rfl)) HSX.out ?_
      try simp only [List.getElem_toArray, List.getElem_cons_succ, List.getElem_cons_zero, Act.put, List.setIfInBounds_toArray, List.set_cons_zero, List.set_cons_succ]
      refine anyT_ready (rs := [8, 9]) (by kernel_rfl) (by simp) ?_
      refine readyT_cons rfl (fun K hK => ?_) (readyT_cons rfl (fun K hK => ?_) readyT_nil)
      · rw [if_pos (by rfl)]
        try simp only [List.getElem_toArray, List.getElem_cons_succ, List.getElem_cons_zero]
        (go_simp)
        refine hK _ _ (fun _ => HKX.out _ (below_alloc w5 _)) ?_
        clear hK K
        try simp only [List.getElem_toArray, List.getElem_cons_succ, List.getElem_cons_zero, Act.put, List.setIfInBounds_toArray, List.set_cons_zero, List.set_cons_succ]
        refine anyT_one (i := 9) (by kernel_rfl) rfl (fun K hK => ?_)
        rw [if_pos (by rfl)]
        try simp only [List.getElem_toArray, List.getElem_cons_succ, List.getElem_cons_zero]
        (go_simp)
        refine hK _ _ (fun _ => HKX.out _ (al2_at w5).2.2) ?_
        clear hK K
        try simp only [List.getElem_toArray, List.getElem_cons_succ, List.getElem_cons_zero, Act.put, List.setIfInBounds_toArray, List.set_cons_zero, List.set_cons_succ]
        have HSE := Lib.hid (al2_set w5 w5.heap.size (w5.heap.size + 1) cx cy (.inl ⟨rfl, rfl⟩))
        refine anyT_one (i := 10) (by kernel_rfl) rfl (fun K hK => ?_)
        rw [if_pos (by rfl)]
        try simp only [List.getElem_toArray, List.getElem_cons_succ, List.getElem_cons_zero]
        (refine wp_store_row 28 (.tmp 7) (.tmp 31) rfl w5.heap.size cx rfl rfl 28 _ (al2_at w5).1 (by rw [HZX.out]; kernel_rfl) (by rw [HZX.out]; rfl) HOX.out ?_)
        refine hK _ _ (fun _ => HKX.out _ (below_setRow (al2_at w5).2.2 (by omega) _)) ?_
        clear hK K
        try simp only [List.getElem_toArray, List.getElem_cons_succ, List.getElem_cons_zero, Act.put, List.setIfInBounds_toArray, List.set_cons_zero, List.set_cons_succ]
        refine anyT_one (i := 11) (by kernel_rfl) rfl (fun K hK => ?_)
        rw [if_pos (by rfl)]
        try simp only [List.getElem_toArray, List.getElem_cons_succ, List.getElem_cons_zero]
        (refine wp_store_row 28 (.tmp 8) (.tmp 35) rfl (w5.heap.size + 1) cy rfl rfl 28 _ HSE.out.1 (by rw [HZY.out]; kernel_rfl) (by rw [HZY.out]; rfl) HOY.out ?_)
        refine hK _ _ (not_mem rfl) ?_
        clear hK K
        try simp only [List.getElem_toArray, List.getElem_cons_succ, List.getElem_cons_zero, Act.put, List.setIfInBounds_toArray, List.set_cons_zero, List.set_cons_succ]
        refine anyT_done (by kernel_rfl) ?_ _
        go_wp2_with (fail)
        go_meet
        exact ⟨w5.heap.size, (w5.heap.size + 1), rfl, rfl, Lib.hid ⟨M.out.trans (HSE.out.2.2.2.mono M.out.size), HSE.out.2.1, HSE.out.2.2.1, HXY.out.1.below HSE.out.2.2.2, HXY.out.2.below HSE.out.2.2.2⟩⟩
      · rw [if_pos (by rfl)]
        try simp only [List.getElem_toArray, List.getElem_cons_succ, List.getElem_cons_zero]
        (go_simp)
        refine hK _ _ (fun _ => HKX.out _ (below_alloc w5 _)) ?_
        clear hK K
        try simp only [List.getElem_toArray, List.getElem_cons_succ, List.getElem_cons_zero, Act.put, List.setIfInBounds_toArray, List.set_cons_zero, List.set_cons_succ]
        refine anyT_one (i := 8) (by kernel_rfl) rfl (fun K hK => ?_)
        rw [if_pos (by rfl)]
        try simp only [List.getElem_toArray, List.getElem_cons_succ, List.getElem_cons_zero]
        (go_simp)
        refine hK _ _ (fun _ => HKX.out _ (al2_at w5).2.2) ?_
        clear hK K
        try simp only [List.getElem_toArray, List.getElem_cons_succ, List.getElem_cons_zero, Act.put, List.setIfInBounds_toArray, List.set_cons_zero, List.set_cons_succ]
        have HSE := Lib.hid (al2_set w5 (w5.heap.size + 1) w5.heap.size cx cy (.inr ⟨rfl, rfl⟩))
        refine anyT_one (i := 10) (by kernel_rfl) rfl (fun K hK => ?_)
        rw [if_pos (by rfl)]
        try simp only [List.getElem_toArray, List.getElem_cons_succ, List.getElem_cons_zero]
        (refine wp_store_row 28 (.tmp 7) (.tmp 31) rfl (w5.heap.size + 1) cx rfl rfl 28 _ (al2_at w5).2.1 (by rw [HZX.out]; kernel_rfl) (by rw [HZX.out]; rfl) HOX.out ?_)
        refine hK _ _ (fun _ => HKX.out _ (below_setRow (al2_at w5).2.2 (by omega) _)) ?_
        clear hK K
        try simp only [List.getElem_toArray, List.getElem_cons_succ, List.getElem_cons_zero, Act.put, List.setIfInBounds_toArray, List.set_cons_zero, List.set_cons_succ]
        refine anyT_one (i := 11) (by kernel_rfl) rfl (fun K hK => ?_)
        rw [if_pos (by rfl)]
        try simp only [List.getElem_toArray, List.getElem_cons_succ, List.getElem_cons_zero]
        (refine wp_store_row 28 (.tmp 8) (.tmp 35) rfl w5.heap.size cy rfl rfl 28 _ HSE.out.1 (by rw [HZY.out]; kernel_rfl) (by rw [HZY.out]; rfl) HOY.out ?_)
        refine hK _ _ (not_mem rfl) ?_
        clear hK K
        try simp only [List.getElem_toArray, List.getElem_cons_succ, List.getElem_cons_zero, Act.put, List.setIfInBounds_toArray, List.set_cons_zero, List.set_cons_succ]
        refine anyT_done (by kernel_rfl) ?_ _
        go_wp2_with (fail)
        go_meet
        exact ⟨(w5.heap.size + 1), w5.heap.size, rfl, rfl, Lib.hid ⟨M.out.trans (HSE.out.2.2.2.mono M.out.size), HSE.out.2.1, HSE.out.2.2.1, HXY.out.1.below HSE.out.2.2.2, HXY.out.2.below HSE.out.2.2.2⟩⟩
    case rest =>
      clear M HXY HSX HBK0 c3 hiN hiN2
      obtain ⟨g7, g8, rfl, rfl, M⟩ := hcut
      go_upto_region 8 with (first
        | (refine wpList_load_row rfl 28 (.tmp 7) rfl g7 rfl 28 _ (0, 0) _ M.out.h7 Tryd.underlying28 rfl (by rw [HZX.out]; kernel_rfl) ?_)
        | (go_at_call 9; (with_reducible refine (HPA.out _ M.out.ta).mono ?_); rintro e w6 ⟨r6, rfl, ho, hb⟩; obtain ⟨a6, c6, rfl⟩ := (KVIn.of_own ho).len; replace M := Lib.hid (M.out.call hb); clear ho hb))
      by_cases hlt : i < x.many
      · replace HIA := Lib.hid (HIA.out hlt)
        have HF := Lib.hid (show (AvT.node x y).path i = x.path i ++ [(⟨false, (y.many : Int), y.root⟩ : AvS)] by rw [AvT.path, if_pos hlt])
        have HPL := Lib.hid (show (x.path i).length ≤ 1048576 by have := path_len7 x i; omega)
        have hI : (i : Int) < (LA.length : Int) := by have := HLA.out; omega
        have hw : IntKind.i64.wrap ((LN.length : Int) - (LA.length : Int)) = (y.many : Int) := (IntWalk.i64_in _ (by have := HLA.out; have := HLN.out; omega)).trans (by have := HLA.out; have := HLN.out; omega)
        clear HIB HPA hlt hi hm hpx hpy
        have hsz32 : (rowOf .u8 32 y.root).size = 32 := rowOf_size _ _ _
        go_wp2_with (first
          | (refine wpList_load_row rfl 28 (.tmp 7) rfl g7 rfl 28 _ (0, 0) _ M.out.h7 Tryd.underlying28 rfl (by rw [HZX.out]; kernel_rfl) ?_)
          | (refine wpList_load_row rfl 28 (.tmp 8) rfl g8 rfl 28 _ (0, 0) _ M.out.h8 Tryd.underlying28 rfl (by rw [HZY.out]; kernel_rfl) ?_)
          | (go_at_call 11; (with_reducible refine (HIA.out _ (HE.out.below M.out.below HE.out.lt) M.out.ta).mono ?_); rintro e w7 ⟨v7, rfl, ho, hb⟩; have HO := Lib.hid (ownsRow_base ho M.out.below.size); replace M := Lib.hid (M.out.call hb); clear ho hb)
          | (go_at_call 14; (with_reducible refine (HRB.out _ (HE.out.below M.out.below HE.out.lt) M.out.tb).mono ?_); rintro e w8 ⟨rfl, hb⟩; replace HO := Lib.hid (ownsRow_below HO.out hb); replace M := Lib.hid (M.out.call hb); clear hb)
          | (refine wpList_step7 rfl (.tmp 54) rfl ⟨false, (y.many : Int), y.root⟩ (by kernel_rfl) ?_; have hA := heap_alloc_new w8 (.cells (stC ⟨false, (y.many : Int), y.root⟩) 53); have hbA := below_alloc w8 (.cells (stC ⟨false, (y.many : Int), y.root⟩) 53); have HA8 := Lib.hid hA; replace HO := Lib.hid (ownsRow_below HO.out hbA); replace M := Lib.hid (M.out.call hbA); clear hA hbA)
          | (at_builtin; refine wpList_append7 rfl (.tmp 48) (.tmp 55) rfl rfl w.heap.size v7 _ rfl HO.out _ ⟨false, (y.many : Int), y.root⟩ rfl HA8.out (by have := HPL.out; omega) M.out.below.size ?_; intro v9 w9 ho9 hg9; have HO9 := Lib.hid ho9; have HB9 := Lib.hid (M.out.below.grown hg9 M.out.below.size (fun k hk => (HO.out.lt k hk).1)); clear ho9 hg9))
        go_ret2
        exact ⟨v9, rfl, by rw [HF.out]; exact HO9.out, HB9.out⟩
      · replace HIB := Lib.hid (HIB.out hlt)
        have HF := Lib.hid (show (AvT.node x y).path i = y.path (i - x.many) ++ [(⟨true, (LA.length : Int), x.root⟩ : AvS)] by rw [AvT.path, if_neg hlt, HLA.out])
        have HPL := Lib.hid (show (y.path (i - x.many)).length ≤ 1048576 by have := path_len7 y (i - x.many); omega)
        have hI : ¬ (i : Int) < (LA.length : Int) := by have := HLA.out; omega
        have hw : IntKind.i64.wrap ((i : Int) - (LA.length : Int)) = ((i - x.many : Nat) : Int) := (IntWalk.i64_in _ (by have := HLA.out; omega)).trans (by have := HLA.out; omega)
        clear HIA HPA hlt hi hm hpx hpy
        have hsz32 : (rowOf .u8 32 x.root).size = 32 := rowOf_size _ _ _
        go_wp2_with (first
          | (refine wpList_load_row rfl 28 (.tmp 8) rfl g8 rfl 28 _ (0, 0) _ M.out.h8 Tryd.underlying28 rfl (by rw [HZY.out]; kernel_rfl) ?_)
          | (refine wpList_load_row rfl 28 (.tmp 7) rfl g7 rfl 28 _ (0, 0) _ M.out.h7 Tryd.underlying28 rfl (by rw [HZX.out]; kernel_rfl) ?_)
          | (go_at_call 11; (with_reducible refine (HIB.out _ (HE.out.below M.out.below HE.out.lt) M.out.tb).mono ?_); rintro e w7 ⟨v7, rfl, ho, hb⟩; have HO := Lib.hid (ownsRow_base ho M.out.below.size); replace M := Lib.hid (M.out.call hb); clear ho hb)
          | (go_at_call 14; (with_reducible refine (HRA.out _ (HE.out.below M.out.below HE.out.lt) M.out.ta).mono ?_); rintro e w8 ⟨rfl, hb⟩; replace HO := Lib.hid (ownsRow_below HO.out hb); replace M := Lib.hid (M.out.call hb); clear hb)
          | (refine wpList_step7 rfl (.tmp 69) rfl ⟨true, (LA.length : Int), x.root⟩ (by kernel_rfl) ?_; have hA := heap_alloc_new w8 (.cells (stC ⟨true, (LA.length : Int), x.root⟩) 53); have hbA := below_alloc w8 (.cells (stC ⟨true, (LA.length : Int), x.root⟩) 53); have HA8 := Lib.hid hA; replace HO := Lib.hid (ownsRow_below HO.out hbA); replace M := Lib.hid (M.out.call hbA); clear hA hbA)
          | (at_builtin; refine wpList_append7 rfl (.tmp 65) (.tmp 70) rfl rfl w.heap.size v7 _ rfl HO.out _ ⟨true, (LA.length : Int), x.root⟩ rfl HA8.out (by have := HPL.out; omega) M.out.below.size ?_; intro v9 w9 ho9 hg9; have HO9 := Lib.hid ho9; have HB9 := Lib.hid (M.out.below.grown hg9 M.out.below.size (fun k hk => (HO.out.lt k hk).1)); clear ho9 hg9))
        go_ret2
        exact ⟨v9, rfl, by rw [HF.out]; exact HO9.out, HB9.out⟩
theorem rPath_any (t : Option AvT) (cs : Array Value) (i : Int) (w : World) (he : Env w) (h : RO w cs t) (hm : manyO t ≤ 1048576) (hz : ∀ p ∈ pairsO t, p.1.size + p.2.size ≤ 1048576) :
    Calls Tryd.prog 11 #[.agg cs, .int .i64 i] w (P7Post (pathO t i).1 (match (pathO t i).2 with | none => 0 | some k => (k : Int)) w) := by
  by_cases hi : 0 ≤ i ∧ i < (manyO t : Int)
  · cases t with
    | none => simp [manyO] at hi; omega
    | some t =>
      obtain ⟨k, rfl⟩ : ∃ k : Nat, i = (k : Int) := ⟨i.toNat, by omega⟩
      have hk : k < t.many := by have : manyO (some t) = t.many := rfl; omega
      have e : pathO (some t) (k : Int) = (t.path k, none) := by
        unfold pathO; dsimp only; rw [if_pos (by omega)]; rfl
      rw [e]
      exact rPath_some t cs k w he h hk hm hz
  · have e : pathO t i = ([], some 1) := by
      cases t with
      | none => rfl
      | some t =>
        unfold pathO; dsimp only
        exact if_neg (show ¬ (0 ≤ i ∧ i < (t.many : Int)) from hi)
    rw [e]
    exact rPath_no t cs i w h hm (by omega)
end Go.Proofs.YtjocbpabbbdkcaaDoor

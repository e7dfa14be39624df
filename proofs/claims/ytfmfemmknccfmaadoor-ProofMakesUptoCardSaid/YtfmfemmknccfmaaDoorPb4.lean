/- Part 4 of the proof. -/
import Derived.Lib.SmallJoins
import Derived.Deep.Fields
import Derived.ChangeSame
import Derived.Test.YtfmfemmknccfmaaDoorPa45
import Derived.Test.YtfmfemmknccfmaaDoorPa23
import Derived.Test.YtfmfemmknccfmaaDoorPa22
import Derived.Test.YtfmfemmknccfmaaDoorPa20
import Derived.Test.YtfmfemmknccfmaaDoorPb3
namespace Go.Proofs.YtfmfemmknccfmaaDoor
set_option linter.unusedVariables false
set_option linter.unusedSimpArgs false
open Go.RowKit
set_option maxRecDepth 100000
set_option linter.unusedSimpArgs false
set_option linter.unusedVariables false
theorem infoSt7 : (Tryd.prog.info? 120).map (fun i => (i.zero, i.size, i.bytes)) = some (some (.agg (stC ⟨false, 0, fun _ => 0⟩)), 34, 48) := by kernel_rfl
theorem wpList_append7 {w : World} {ops : Array Oper} {rest : List Oper} {o : Oper} {a : Act} {Q : Exit → Act → World → Prop} (hgd : o.guard = none) (s x : Operand)
    (ho : o.op = .call { callee := .builtin .append, args := #[s, x], argTypes := #[55, 55] }) (hty : o.type = 55)
    (base : Nat) (v : Value) (l : List AvS) (hs : a.eval s = v) (hown : w.ownsRow base 120 34 v l.length (flatSt l)) (b : Nat) (st : AvS) (hx : a.eval x = .slice (some ⟨b, 0, none⟩) 1 1) (hy : w.heap[b]? = some (.cells (stC st) 120 (0, 0))) (hl : (l.length + 1) * 48 ≤ 140737488355328) (hb : base ≤ w.heap.size)
    (h : ∀ v' w', w'.ownsRow base 120 34 v' (l ++ [st]).length (flatSt (l ++ [st])) → w.grownBy w' v.ownBlock → wpList Tryd.prog ops Q rest (a.put o.dst v') w') : wpList Tryd.prog ops Q (o :: rest) a w := by
  refine wpList_plain hgd fun K hK => ?_
  obtain ⟨i0, hi, hz0, hz1, hz2⟩ := info_parts infoSt7
  obtain ⟨v', w', hr, h1, h2, _, _⟩ := run_append_own_at w base 55 55 120 i0 _ 34 48 Tryd.underlying55 hi hz0 hz1 hz2 (by simp [Value.cells, stC_size]) (by decide) v l.length (flatSt l) hown ⟨b, 0, none⟩ 1 1 st.cells (by rw [AvS.cells_length])
    (fun j u hj => by rw [Addr.add_mid, Nat.zero_add, cell_of_row w b j _ _ _ hy]; simpa [AvS.cells] using hj) st.cells_one (by unfold maxLen; omega) hl hb
  unfold Oper.wp execOp
  simp only [ho, hty, resolve, invoke, builtin, Sem.run_bind, Sem.run_pure, Result.andThen_ok, List.map_toArray, List.map_cons, List.map_nil, hs, hx, hr]
  exact hK _ _ (h v' w' (by rw [List.length_append, flatSt_append, show flatSt [st] = st.cells from by simp [flatSt]]; exact h1) h2)
theorem st7_fill (s : AvS) : Instr.fill (fun i => some (i * 34, 34)) ((Array.range (1 * 34)).map ((Value.agg (stC ⟨false, 0, fun _ => 0⟩)).cells[· % (Value.agg (stC ⟨false, 0, fun _ => 0⟩)).cells.size]!)) [(0, .agg (stC s))] = some (stC s) := by kernel_rfl
theorem wpList_step7 {w : World} {ops : Array Oper} {rest : List Oper} {o : Oper} {a : Act} {Q : Exit → Act → World → Prop} (hgd : o.guard = none) (x : Operand) (ho : o.op = .buildSlice 55 1 #[(0, x)]) (s : AvS) (hx : a.eval x = .agg (stC s))
    (h : wpList Tryd.prog ops Q rest (a.put o.dst (.slice (some ⟨w.heap.size, 0, none⟩) 1 1)) (w.alloc (.cells (stC s) 120))) : wpList Tryd.prog ops Q (o :: rest) a w := by
  refine wpList_plain hgd fun K hK => ?_
  obtain ⟨i0, hi, hz0, hz1, hz2⟩ := info_parts infoSt7
  refine wp_buildSlice 55 120 1 #[(0, x)] ho (stC s) i0 _ Tryd.underlying55 hi hz0 (by rw [hz1]; decide) (by rw [hz1]; decide) ?_ (hK _ _ h)
  rw [hz1]
  simpa [hx] using st7_fill s
theorem st7_built (b : Bool) (m : Int) (F : Nat → Int) : Tryd.prog.built 120 [(0, .bool b), (1, .int .i64 m), (2, .agg (rowOf .u8 32 F))] = some (stC ⟨b, m, F⟩) := by kernel_rfl
theorem wpList_built {P : Program} {ops : Array Oper} {rest : List Oper} {o : Oper} {a : Act} {w : World} {Q : Exit → Act → World → Prop} (hg : o.guard = none) (t : TypeId) (parts : Array (Nat × Operand)) (ho : o.op = .build t parts) (cells : Array Value)
    (hf : P.built t (parts.map fun (i, x) => (i, a.eval x)).toList = some cells)
    (h : wpList P ops Q rest (a.put o.dst (.agg cells)) w) : wpList P ops Q (o :: rest) a w :=
  wpList_build hg t parts ho (by rw [hf]; rfl) (by rw [hf]; exact h)
theorem path_len7 : ∀ (t : AvT) (i : Nat), (t.path i).length + 1 ≤ t.many
  | .leaf k v, i => by simp [AvT.path, AvT.many]
  | .node a b, i => by
    have ha := path_len7 a i
    have hb := path_len7 b (i - a.many)
    have pa := a.many_pos
    have pb := b.many_pos
    unfold AvT.path
    simp only [AvT.many]
    split <;> rw [List.length_append, List.length_singleton] <;> omega
def P7Post (l : List AvS) (c : Int) (w : World) (e : Ending) (w' : World) : Prop := ∃ v, e = .returned (.tuple #[v, .int .i64 c]) ∧ w'.ownsRow w.heap.size 120 34 v l.length (flatSt l) ∧ Below w.heap.size w w'
/-- what lies in memory while the reference makes a path -/
structure PtM (w w' : World) (ca cb : Array Value) (a b : AvT) (g7 g8 : Nat) : Prop where
  below : Below w.heap.size w w'
  h7 : w'.heap[g7]? = some (.cells ca 29 (0, 0))
  h8 : w'.heap[g8]? = some (.cells cb 29 (0, 0))
  ta : RT w' ca a
  tb : RT w' cb b
theorem PtM.call {w w' w2 : World} {ca cb : Array Value} {a b : AvT} {g7 g8 : Nat} (m : PtM w w' ca cb a b g7 g8) (h : Below w'.heap.size w' w2) : PtM w w2 ca cb a b g7 g8 :=
  ⟨m.below.trans (h.mono m.below.size), (h.block _ (blk_lt m.h7)).trans m.h7, (h.block _ (blk_lt m.h8)).trans m.h8, m.ta.below h, m.tb.below h⟩
theorem rPath_no (t : Option AvT) (cs : Array Value) (i : Int) (w : World) (h : RO w cs t) (hm : manyO t ≤ 1048576) (hi : i < 0 ∨ (manyO t : Int) ≤ i) : Calls Tryd.prog 89 #[.agg cs, .int .i64 i] w (P7Post [] 1 w) := by
  have hml := manyO_eq t
  obtain ⟨is, k0, v0, a0, n0, c0', rfl⟩ := h.form
  have HB := Lib.hid (below_alloc w (.cells #[.bool is, .string k0, .string v0, .slice a0 n0 c0'] 29))
  have HP := Lib.hid (heap_alloc_new w (.cells #[.bool is, .string k0, .string v0, .slice a0 n0 c0'] 29))
  have HPS := Lib.hid (rpairs_any t _ _ (h.below HB.out) (by omega))
  obtain ⟨l, hl⟩ : ∃ l, l = pairsO t := ⟨_, rfl⟩
  rw [← hl] at HPS hml
  rw [← hml] at hi
  clear h hl hm hml
  unfold PsPost at HPS
  unfold P7Post
  have key : i < 0 ∨ (¬ i < 0 ∧ (l.length : Int) ≤ i) := by omega
  clear hi
  go_enter Tryd.func89, Tryd.ntmps89
  go_upto_region 1 with (fail)
  generalize w.alloc (.cells #[.bool is, .string k0, .string v0, .slice a0 n0 c0'] 29) = wb at *
  go_upto_region 2 with (first
    | (refine wpList_load_row rfl 29 (.tmp 2) rfl w.heap.size rfl 29 _ (0, 0) _ HP.out Tryd.underlying29 rfl (by kernel_rfl) ?_)
    | (go_at_call 53; (with_reducible refine HPS.out.mono ?_); rintro e w1 ⟨r, rfl, ho, hb⟩; obtain ⟨ra, rc, rfl⟩ := (KVIn.of_own ho).len; replace HB := Lib.hid (HB.out.trans (hb.mono HB.out.size)); replace HP := Lib.hid ((hb.block _ (blk_lt HP.out)).trans HP.out); clear ho hb))
  rcases key with h0 | ⟨h0, h1⟩
  all_goals
    go_wp2_with (fail)
    go_ret2
    exact ⟨_, rfl, World.ownsRow_nil _ _ _ _, HB.out⟩
theorem rPath_leaf (k v : ByteArray) (w : World) : Calls Tryd.prog 89 #[.agg #[.bool true, .string k, .string v, .slice none 0 0], .int .i64 0] w (P7Post [] 0 w) := by
  have HB := Lib.hid (below_alloc w (.cells #[.bool true, .string k, .string v, .slice none 0 0] 29))
  have HP := Lib.hid (heap_alloc_new w (.cells #[.bool true, .string k, .string v, .slice none 0 0] 29))
  have HPS := Lib.hid (rpairs_any (some (.leaf k v)) #[.bool true, .string k, .string v, .slice none 0 0] (w.alloc (.cells #[.bool true, .string k, .string v, .slice none 0 0] 29)) (show RT (w.alloc (.cells #[.bool true, .string k, .string v, .slice none 0 0] 29)) #[.bool true, .string k, .string v, .slice none 0 0] (.leaf k v) from rfl) (by simp [manyO, AvT.many]))
  unfold PsPost at HPS
  unfold P7Post
  rw [show pairsO (some (AvT.leaf k v)) = [(k, v)] from rfl] at HPS
  go_enter Tryd.func89, Tryd.ntmps89
  go_upto_region 1 with (fail)
  generalize w.alloc (.cells #[.bool true, .string k, .string v, .slice none 0 0] 29) = wb at *
  go_upto_region 2 with (first
    | (refine wpList_load_row rfl 29 (.tmp 2) rfl w.heap.size rfl 29 _ (0, 0) _ HP.out Tryd.underlying29 rfl (by kernel_rfl) ?_)
    | (go_at_call 53; (with_reducible refine HPS.out.mono ?_); rintro e w1 ⟨r, rfl, ho, hb⟩; obtain ⟨ra, rc, rfl⟩ := (KVIn.of_own ho).len; replace HB := Lib.hid (HB.out.trans (hb.mono HB.out.size)); replace HP := Lib.hid ((hb.block _ (blk_lt HP.out)).trans HP.out); clear ho hb))
  have cR := r_cells HP.out
  obtain ⟨cR0, cR1, cR2, cR3⟩ := cR
  go_wp2_with (fail)
  go_ret2
  exact ⟨_, rfl, World.ownsRow_nil _ _ _ _, HB.out⟩
set_option maxHeartbeats 8000000 in
theorem rPath_some : ∀ (t : AvT) (cs : Array Value) (i : Nat) (w : World), Env w → RT w cs t → i < t.many → t.many ≤ 1048576 → (∀ p ∈ t.pairs, p.1.size + p.2.size ≤ 1048576) → Calls Tryd.prog 89 #[.agg cs, .int .i64 (i : Int)] w (P7Post (t.path i) 0 w)
  | .leaf k v, cs, i, w, _, hcs, hi, _, _ => by
    obtain rfl := hcs
    simp only [AvT.many] at hi
    obtain rfl : i = 0 := by omega
    exact rPath_leaf k v w
  | .node x y, cs, i, w, he, hcs, hi, hm, hz => by
    have hcs0 := hcs
    simp only [AvT.many] at hi hm
    obtain ⟨bk, cx, cy, rfl, hbk, r1, r2, tx, ty⟩ := hcs
    have HZX := Lib.hid tx.size
    have HZY := Lib.hid ty.size
    have HOX := Lib.hid (RO.one (t := some x) tx)
    have HOY := Lib.hid (RO.one (t := some y) ty)
    have hpx := x.many_pos
    have hpy := y.many_pos
    have HRA := Lib.hid (fun w h1 h2 => rRoot_some x cx w h1 h2 (by omega) (fun p hp => hz p (List.mem_append.2 (.inl hp))))
    have HRB := Lib.hid (fun w h1 h2 => rRoot_some y cy w h1 h2 (by omega) (fun p hp => hz p (List.mem_append.2 (.inr hp))))
    have HPA := Lib.hid (fun w h => rpairs_some x cx w h (by omega))
    have HIA := Lib.hid (fun (hl : i < x.many) w h1 h2 => rPath_some x cx i w h1 h2 hl (by omega) (fun p hp => hz p (List.mem_append.2 (.inl hp))))
    have HIB := Lib.hid (fun (hl : ¬ i < x.many) w h1 h2 => rPath_some y cy (i - x.many) w h1 h2 (by omega) (by omega) (fun p hp => hz p (List.mem_append.2 (.inr hp))))
    have HE := Lib.hid he
    have HB := Lib.hid (below_alloc w (.cells (rC true eBA eBA (.slice (some ⟨bk, 0, none⟩) 2 2)) 29))
    have HP := Lib.hid (heap_alloc_new w (.cells (rC true eBA eBA (.slice (some ⟨bk, 0, none⟩) 2 2)) 29))
    have HPS := Lib.hid (rpairs_some (.node x y) _ (w.alloc (.cells (rC true eBA eBA (.slice (some ⟨bk, 0, none⟩) 2 2)) 29)) (hcs0.below HB.out) (by simp only [AvT.many]; omega))
    have hla : x.pairs.length = x.many := AvT.many_eq x
    have hln : (AvT.node x y).pairs.length = x.many + y.many := AvT.many_eq (.node x y)
    obtain ⟨LN, hLN⟩ : ∃ l, l = (AvT.node x y).pairs := ⟨_, rfl⟩
    obtain ⟨LA, hLA⟩ : ∃ l, l = x.pairs := ⟨_, rfl⟩
    rw [← hLA] at HPA hla
    rw [← hLN] at HPS hln
    have HXY0 := Lib.hid (show RT (w.alloc (.cells (rC true eBA eBA (.slice (some ⟨bk, 0, none⟩) 2 2)) 29)) cx x ∧ RT (w.alloc (.cells (rC true eBA eBA (.slice (some ⟨bk, 0, none⟩) 2 2)) 29)) cy y from ⟨tx.below HB.out, ty.below HB.out⟩)
    have HRR := Lib.hid (show (w.alloc (.cells (rC true eBA eBA (.slice (some ⟨bk, 0, none⟩) 2 2)) 29)).rangeAt bk 0 cx.toList ∧ (w.alloc (.cells (rC true eBA eBA (.slice (some ⟨bk, 0, none⟩) 2 2)) 29)).rangeAt bk 4 cy.toList ∧ bk < (w.alloc (.cells (rC true eBA eBA (.slice (some ⟨bk, 0, none⟩) 2 2)) 29)).heap.size from ⟨range_below r1 HB.out hbk, range_below r2 HB.out hbk, Nat.lt_of_lt_of_le hbk HB.out.size⟩)
    unfold PsPost at HPA HPS
    unfold P7Post at HIA HIB ⊢
    have hiN : ¬ (LN.length : Int) ≤ (i : Int) := by omega
    have hiN2 : (i : Int) < (LN.length : Int) := by omega
    have HLA := Lib.hid hla
    have HLN := Lib.hid hln
    clear he hz hbk r1 r2 tx ty hcs0 hLN hLA hla hln
    go_enter Tryd.func89, Tryd.ntmps89
    go_upto_region 1 with (fail)
    generalize w.alloc (.cells (rC true eBA eBA (.slice (some ⟨bk, 0, none⟩) 2 2)) 29) = wb at *
    go_upto_region 2 with (first
      | (refine wpList_load_row rfl 29 (.tmp 2) rfl w.heap.size rfl 29 _ (0, 0) _ HP.out Tryd.underlying29 rfl (by kernel_rfl) ?_)
      | (go_at_call 53; (with_reducible refine HPS.out.mono ?_); rintro e w1 ⟨r, rfl, ho, hb⟩; obtain ⟨ra, rc, rfl⟩ := (KVIn.of_own ho).len; replace HB := Lib.hid (HB.out.trans (hb.mono HB.out.size)); replace HP := Lib.hid ((hb.block _ (blk_lt HP.out)).trans HP.out); have HXY := Lib.hid (show RT w1 cx x ∧ RT w1 cy y from ⟨HXY0.out.1.below hb, HXY0.out.2.below hb⟩); replace HRR := Lib.hid (show w1.rangeAt bk 0 cx.toList ∧ w1.rangeAt bk 4 cy.toList ∧ bk < w1.heap.size from ⟨range_below HRR.out.1 hb HRR.out.2.2, range_below HRR.out.2.1 hb HRR.out.2.2, Nat.lt_of_lt_of_le HRR.out.2.2 hb.size⟩);clear ho hb))
    have HSX := Lib.hid (show w1.cell? ⟨w.heap.size, 3, none⟩ = some (.slice (some ⟨bk, 0, none⟩) 2 2) ∧ w1.rangeAt bk 0 cx.toList ∧ w1.rangeAt bk 4 cy.toList from ⟨by rw [cell_of_row w1 _ 3 _ _ _ HP.out]; rfl, HRR.out.1, HRR.out.2.1⟩)
    have HBK0 := Lib.hid (show w.heap.size < w1.heap.size ∧ bk < w1.heap.size from ⟨blk_lt HP.out, HRR.out.2.2⟩)
    have M := Lib.hid HB.out
    have c3 := HSX.out.1
    clear HB HP HXY0 HRR HPS
    go_upto_region 6 with (fail)
    go_cut [7, 8] (fun p7 p8 wx => ∃ g7 g8, p7 = .pointer (some ⟨g7, 0, none⟩) ∧ p8 = .pointer (some ⟨g8, 0, none⟩) ∧ Hid (PtM w wx cx cy x y g7 g8))
    case first =>
      refine wp_region_T (fun w' => w'.cell? ⟨w.heap.size, 3, none⟩ = some (.slice (some ⟨bk, 0, none⟩) 2 2) ∧ w'.rangeAt bk 0 cx.toList ∧ w'.rangeAt bk 4 cy.toList) [1, 2, 3, 5, 6, 7, 8, 9, 10] (by kernel_rfl) ?_
      replace M := Lib.hid (show Below w.heap.size w w1.drew from M.out.drew)
      replace HXY := Lib.hid (show RT w1.drew cx x ∧ RT w1.drew cy y from ⟨HXY.out.1.below (Below.refl _ _).drew, HXY.out.2.below (Below.refl _ _).drew⟩)
      replace HSX := Lib.hid (show w1.drew.cell? ⟨w.heap.size, 3, none⟩ = some (.slice (some ⟨bk, 0, none⟩) 2 2) ∧ w1.drew.rangeAt bk 0 cx.toList ∧ w1.drew.rangeAt bk 4 cy.toList from HSX.out)
      have HBK := Lib.hid (show w.heap.size < w1.drew.heap.size ∧ bk < w1.drew.heap.size from HBK0.out)
      generalize w1.drew = w5 at *
      have HKX : Hid (∀ u : World, Below w5.heap.size w5 u → u.cell? ⟨w.heap.size, 3, none⟩ = some (.slice (some ⟨bk, 0, none⟩) 2 2) ∧ u.rangeAt bk 0 cx.toList ∧ u.rangeAt bk 4 cy.toList) := Lib.hid fun u hb => ⟨(hb.cell (p := ⟨w.heap.size, 3, none⟩) HBK.out.1).trans HSX.out.1, range_below HSX.out.2.1 hb HBK.out.2, range_below HSX.out.2.2 hb HBK.out.2⟩
      refine anyT_takeY (i := 0) (v := .pointer (some ⟨w.heap.size, 3, none⟩)) rfl (by kernel_rfl) (by kernel_rfl) (by kernel_rfl) (fun _ _ _ h => h) (by kernel_rfl) (Or.inl ⟨by rfl, by intro w; go_simp⟩) ?_
      try simp only [List.getElem_toArray, List.getElem_cons_succ, List.getElem_cons_zero, Act.put, List.setIfInBounds_toArray, List.set_cons_zero, List.set_cons_succ]
      refine anyT_takeY (i := 4) (v := .pointer (some ⟨w.heap.size, 3, none⟩)) rfl (by kernel_rfl) (by kernel_rfl) (by kernel_rfl) (fun _ _ _ h => h) (by kernel_rfl) (Or.inl ⟨by rfl, by intro w; go_simp⟩) ?_
      try simp only [List.getElem_toArray, List.getElem_cons_succ, List.getElem_cons_zero, Act.put, List.setIfInBounds_toArray, List.set_cons_zero, List.set_cons_succ]
      refine anyT_take [2, 3, 10, 11] (i := 1) (v := .slice (some ⟨bk, 0, none⟩) 2 2) rfl (by kernel_rfl) (by kernel_rfl) (by kernel_rfl) (fun _ _ _ h => h) (by kernel_rfl) (Or.inl ⟨by rfl, fun w' hS => by have c := hS.1; go_simp⟩) HSX.out ?_
      try simp only [List.getElem_toArray, List.getElem_cons_succ, List.getElem_cons_zero, Act.put, List.setIfInBounds_toArray, List.set_cons_zero, List.set_cons_succ]
      refine anyT_take [3, 10, 11] (i := 2) (v := .pointer (some ⟨bk, 0, none⟩)) rfl (by kernel_rfl) (by kernel_rfl) (by kernel_rfl) (fun _ _ _ h => h) (by kernel_rfl) (Or.inl ⟨by rfl, fun w' _ => by go_simp⟩) HSX.out ?_
      try simp only [List.getElem_toArray, List.getElem_cons_succ, List.getElem_cons_zero, Act.put, List.setIfInBounds_toArray, List.set_cons_zero, List.set_cons_succ]
      refine anyT_take [10, 11] (i := 3) (v := .agg cx) rfl (by kernel_rfl) (by kernel_rfl) (by kernel_rfl) (fun _ _ _ h => h) (by kernel_rfl) (agg_mid (by rfl) 29 (.tmp 30) rfl bk 0 rfl _ _ (fun _ h => h.2.1) Tryd.underlying29 rfl (by rw [HZX.out]; kernel_rfl)) HSX.out ?_
      try simp only [List.getElem_toArray, List.getElem_cons_succ, List.getElem_cons_zero, Act.put, List.setIfInBounds_toArray, List.set_cons_zero, List.set_cons_succ]
      refine anyT_take [6, 7, 11] (i := 5) (v := .slice (some ⟨bk, 0, none⟩) 2 2) rfl (by kernel_rfl) (by kernel_rfl) (by kernel_rfl) (fun _ _ _ h => h) (by kernel_rfl) (Or.inl ⟨by rfl, fun w' hS => by have c := hS.1; go_simp⟩) HSX.out ?_
      try simp only [List.getElem_toArray, List.getElem_cons_succ, List.getElem_cons_zero, Act.put, List.setIfInBounds_toArray, List.set_cons_zero, List.set_cons_succ]
      refine anyT_take [7, 11] (i := 6) (v := .pointer (some ⟨bk, 4, none⟩)) rfl (by kernel_rfl) (by kernel_rfl) (by kernel_rfl) (fun _ _ _ h => h) (by kernel_rfl) (Or.inl ⟨by rfl, fun w' _ => by go_simp⟩) HSX.out ?_
      try simp only [List.getElem_toArray, List.getElem_cons_succ, List.getElem_cons_zero, Act.put, List.setIfInBounds_toArray, List.set_cons_zero, List.set_cons_succ]
      refine anyT_take [11] (i := 7) (v := .agg cy) rfl (by kernel_rfl) (by kernel_rfl) (by kernel_rfl) (fun _ _ _ h => h) (by kernel_rfl) (agg_mid (by rfl) 29 (.tmp 34) rfl bk 4 rfl _ _ (fun _ h => h.2.2) Tryd.underlying29 rfl (by rw [HZY.out]; kernel_rfl)) HSX.out ?_
      try simp only [List.getElem_toArray, List.getElem_cons_succ, List.getElem_cons_zero, Act.put, List.setIfInBounds_toArray, List.set_cons_zero, List.set_cons_succ]
      refine anyT_ready (rs := [8, 9]) (by kernel_rfl) (by simp) ?_
      refine readyT_cons rfl (fun K hK => ?_) (readyT_cons rfl (fun K hK => ?_) readyT_nil)
      · rw [if_pos (by rfl)]
        try simp only [List.getElem_toArray, List.getElem_cons_succ, List.getElem_cons_zero]
        (go_simp)
        refine hK _ _ (fun _ => HKX.out _ (below_alloc w5 _)) ?_
        clear hK K
        try simp only [List.getElem_toArray, List.getElem_cons_succ, List.getElem_cons_zero, Act.put, List.setIfInBounds_toArray, List.set_cons_zero, List.set_cons_succ]
        refine anyT_one (i := 9) (by kernel_rfl) rfl (fun K hK => ?_)
        rw [if_pos (by rfl)]
        try simp only [List.getElem_toArray, List.getElem_cons_succ, List.getElem_cons_zero]
        (go_simp)
        refine hK _ _ (fun _ => HKX.out _ (al2_at w5).2.2) ?_
        clear hK K
        try simp only [List.getElem_toArray, List.getElem_cons_succ, List.getElem_cons_zero, Act.put, List.setIfInBounds_toArray, List.set_cons_zero, List.set_cons_succ]
        have HSE := Lib.hid (al2_set w5 w5.heap.size (w5.heap.size + 1) cx cy (.inl ⟨rfl, rfl⟩))
        refine anyT_one (i := 10) (by kernel_rfl) rfl (fun K hK => ?_)
        rw [if_pos (by rfl)]
        try simp only [List.getElem_toArray, List.getElem_cons_succ, List.getElem_cons_zero]
        (refine wp_store_row 29 (.tmp 7) (.tmp 31) rfl w5.heap.size cx rfl rfl 29 _ (al2_at w5).1 (by rw [HZX.out]; kernel_rfl) (by rw [HZX.out]; rfl) HOX.out ?_)
        refine hK _ _ (fun _ => HKX.out _ (below_setRow (al2_at w5).2.2 (by omega) _)) ?_
        clear hK K
        try simp only [List.getElem_toArray, List.getElem_cons_succ, List.getElem_cons_zero, Act.put, List.setIfInBounds_toArray, List.set_cons_zero, List.set_cons_succ]
        refine anyT_one (i := 11) (by kernel_rfl) rfl (fun K hK => ?_)
        rw [if_pos (by rfl)]
        try simp only [List.getElem_toArray, List.getElem_cons_succ, List.getElem_cons_zero]
        (refine wp_store_row 29 (.tmp 8) (.tmp 35) rfl (w5.heap.size + 1) cy rfl rfl 29 _ HSE.out.1 (by rw [HZY.out]; kernel_rfl) (by rw [HZY.out]; rfl) HOY.out ?_)
        refine hK _ _ (not_mem rfl) ?_
        clear hK K
        try simp only [List.getElem_toArray, List.getElem_cons_succ, List.getElem_cons_zero, Act.put, List.setIfInBounds_toArray, List.set_cons_zero, List.set_cons_succ]
        refine anyT_done (by kernel_rfl) ?_ _
        go_wp2_with (fail)
        go_meet
        exact ⟨w5.heap.size, (w5.heap.size + 1), rfl, rfl, Lib.hid ⟨M.out.trans (HSE.out.2.2.2.mono M.out.size), HSE.out.2.1, HSE.out.2.2.1, HXY.out.1.below HSE.out.2.2.2, HXY.out.2.below HSE.out.2.2.2⟩⟩
      · rw [if_pos (by rfl)]
        try simp only [List.getElem_toArray, List.getElem_cons_succ, List.getElem_cons_zero]
        (go_simp)
        refine hK _ _ (fun _ => HKX.out _ (below_alloc w5 _)) ?_
        clear hK K
        try simp only [List.getElem_toArray, List.getElem_cons_succ, List.getElem_cons_zero, Act.put, List.setIfInBounds_toArray, List.set_cons_zero, List.set_cons_succ]
        refine anyT_one (i := 8) (by kernel_rfl) rfl (fun K hK => ?_)
        rw [if_pos (by rfl)]
        try simp only [List.getElem_toArray, List.getElem_cons_succ, List.getElem_cons_zero]
        (go_simp)
        refine hK _ _ (fun _ => HKX.out _ (al2_at w5).2.2) ?_
        clear hK K
        try simp only [List.getElem_toArray, List.getElem_cons_succ, List.getElem_cons_zero, Act.put, List.setIfInBounds_toArray, List.set_cons_zero, List.set_cons_succ]
        have HSE := Lib.hid (al2_set w5 (w5.heap.size + 1) w5.heap.size cx cy (.inr ⟨rfl, rfl⟩))
        refine anyT_one (i := 10) (by kernel_rfl) rfl (fun K hK => ?_)
        rw [if_pos (by rfl)]
        try simp only [List.getElem_toArray, List.getElem_cons_succ, List.getElem_cons_zero]
        (refine wp_store_row 29 (.tmp 7) (.tmp 31) rfl (w5.heap.size + 1) cx rfl rfl 29 _ (al2_at w5).2.1 (by rw [HZX.out]; kernel_rfl) (by rw [HZX.out]; rfl) HOX.out ?_)
        refine hK _ _ (fun _ => HKX.out _ (below_setRow (al2_at w5).2.2 (by omega) _)) ?_
        clear hK K
        try simp only [List.getElem_toArray, List.getElem_cons_succ, List.getElem_cons_zero, Act.put, List.setIfInBounds_toArray, List.set_cons_zero, List.set_cons_succ]
        refine anyT_one (i := 11) (by kernel_rfl) rfl (fun K hK => ?_)
        rw [if_pos (by rfl)]
        try simp only [List.getElem_toArray, List.getElem_cons_succ, List.getElem_cons_zero]
        (refine wp_store_row 29 (.tmp 8) (.tmp 35) rfl w5.heap.size cy rfl rfl 29 _ HSE.out.1 (by rw [HZY.out]; kernel_rfl) (by rw [HZY.out]; rfl) HOY.out ?_)
        refine hK _ _ (not_mem rfl) ?_
        clear hK K
        try simp only [List.getElem_toArray, List.getElem_cons_succ, List.getElem_cons_zero, Act.put, List.setIfInBounds_toArray, List.set_cons_zero, List.set_cons_succ]
        refine anyT_done (by kernel_rfl) ?_ _
        go_wp2_with (fail)
        go_meet
        exact ⟨(w5.heap.size + 1), w5.heap.size, rfl, rfl, Lib.hid ⟨M.out.trans (HSE.out.2.2.2.mono M.out.size), HSE.out.2.1, HSE.out.2.2.1, HXY.out.1.below HSE.out.2.2.2, HXY.out.2.below HSE.out.2.2.2⟩⟩
    case rest =>
      clear M HXY HSX HBK0 c3 hiN hiN2
      obtain ⟨g7, g8, rfl, rfl, M⟩ := hcut
      go_upto_region 8 with (first
        | (refine wpList_load_row rfl 29 (.tmp 7) rfl g7 rfl 29 _ (0, 0) _ M.out.h7 Tryd.underlying29 rfl (by rw [HZX.out]; kernel_rfl) ?_)
        | (go_at_call 53; (with_reducible refine (HPA.out _ M.out.ta).mono ?_); rintro e w6 ⟨r6, rfl, ho, hb⟩; obtain ⟨a6, c6, rfl⟩ := (KVIn.of_own ho).len; replace M := Lib.hid (M.out.call hb); clear ho hb))
      by_cases hlt : i < x.many
      · replace HIA := Lib.hid (HIA.out hlt)
        have HF := Lib.hid (show (AvT.node x y).path i = x.path i ++ [(⟨false, (y.many : Int), y.root⟩ : AvS)] by rw [AvT.path, if_pos hlt])
        have HPL := Lib.hid (show (x.path i).length ≤ 1048576 by have := path_len7 x i; omega)
        have hI : (i : Int) < (LA.length : Int) := by have := HLA.out; omega
        have hw : IntKind.i64.wrap ((LN.length : Int) - (LA.length : Int)) = (y.many : Int) := (IntWalk.i64_in _ (by have := HLA.out; have := HLN.out; omega)).trans (by have := HLA.out; have := HLN.out; omega)
        clear HIB HPA hlt hi hm hpx hpy
        have hsz32 : (rowOf .u8 32 y.root).size = 32 := rowOf_size _ _ _
        go_wp2_with (first
          | (refine wpList_load_row rfl 29 (.tmp 7) rfl g7 rfl 29 _ (0, 0) _ M.out.h7 Tryd.underlying29 rfl (by rw [HZX.out]; kernel_rfl) ?_)
          | (refine wpList_load_row rfl 29 (.tmp 8) rfl g8 rfl 29 _ (0, 0) _ M.out.h8 Tryd.underlying29 rfl (by rw [HZY.out]; kernel_rfl) ?_)
          | (go_at_call 89; (with_reducible refine (HIA.out _ (HE.out.below M.out.below HE.out.lt) M.out.ta).mono ?_); rintro e w7 ⟨v7, rfl, ho, hb⟩; have HO := Lib.hid (ownsRow_base ho M.out.below.size); replace M := Lib.hid (M.out.call hb); clear ho hb)
          | (go_at_call 18; (with_reducible refine (HRB.out _ (HE.out.below M.out.below HE.out.lt) M.out.tb).mono ?_); rintro e w8 ⟨rfl, hb⟩; replace HO := Lib.hid (ownsRow_below HO.out hb); replace M := Lib.hid (M.out.call hb); clear hb)
          | (refine wpList_step7 rfl (.tmp 54) rfl ⟨false, (y.many : Int), y.root⟩ (by kernel_rfl) ?_; have hA := heap_alloc_new w8 (.cells (stC ⟨false, (y.many : Int), y.root⟩) 120); have hbA := below_alloc w8 (.cells (stC ⟨false, (y.many : Int), y.root⟩) 120); have HA8 := Lib.hid hA; replace HO := Lib.hid (ownsRow_below HO.out hbA); replace M := Lib.hid (M.out.call hbA); clear hA hbA)
          | (at_builtin; refine wpList_append7 rfl (.tmp 48) (.tmp 55) rfl rfl w.heap.size v7 _ rfl HO.out _ ⟨false, (y.many : Int), y.root⟩ rfl HA8.out (by have := HPL.out; omega) M.out.below.size ?_; intro v9 w9 ho9 hg9; have HO9 := Lib.hid ho9; have HB9 := Lib.hid (M.out.below.grown hg9 M.out.below.size (fun k hk => (HO.out.lt k hk).1)); clear ho9 hg9))
        go_ret2
        exact ⟨v9, rfl, by rw [HF.out]; exact HO9.out, HB9.out⟩
      · replace HIB := Lib.hid (HIB.out hlt)
        have HF := Lib.hid (show (AvT.node x y).path i = y.path (i - x.many) ++ [(⟨true, (LA.length : Int), x.root⟩ : AvS)] by rw [AvT.path, if_neg hlt, HLA.out])
        have HPL := Lib.hid (show (y.path (i - x.many)).length ≤ 1048576 by have := path_len7 y (i - x.many); omega)
        have hI : ¬ (i : Int) < (LA.length : Int) := by have := HLA.out; omega
        have hw : IntKind.i64.wrap ((i : Int) - (LA.length : Int)) = ((i - x.many : Nat) : Int) := (IntWalk.i64_in _ (by have := HLA.out; omega)).trans (by have := HLA.out; omega)
        clear HIA HPA hlt hi hm hpx hpy
        have hsz32 : (rowOf .u8 32 x.root).size = 32 := rowOf_size _ _ _
        go_wp2_with (first
          | (refine wpList_load_row rfl 29 (.tmp 8) rfl g8 rfl 29 _ (0, 0) _ M.out.h8 Tryd.underlying29 rfl (by rw [HZY.out]; kernel_rfl) ?_)
          | (refine wpList_load_row rfl 29 (.tmp 7) rfl g7 rfl 29 _ (0, 0) _ M.out.h7 Tryd.underlying29 rfl (by rw [HZX.out]; kernel_rfl) ?_)
          | (go_at_call 89; (with_reducible refine (HIB.out _ (HE.out.below M.out.below HE.out.lt) M.out.tb).mono ?_); rintro e w7 ⟨v7, rfl, ho, hb⟩; have HO := Lib.hid (ownsRow_base ho M.out.below.size); replace M := Lib.hid (M.out.call hb); clear ho hb)
          | (go_at_call 18; (with_reducible refine (HRA.out _ (HE.out.below M.out.below HE.out.lt) M.out.ta).mono ?_); rintro e w8 ⟨rfl, hb⟩; replace HO := Lib.hid (ownsRow_below HO.out hb); replace M := Lib.hid (M.out.call hb); clear hb)
          | (refine wpList_step7 rfl (.tmp 69) rfl ⟨true, (LA.length : Int), x.root⟩ (by kernel_rfl) ?_; have hA := heap_alloc_new w8 (.cells (stC ⟨true, (LA.length : Int), x.root⟩) 120); have hbA := below_alloc w8 (.cells (stC ⟨true, (LA.length : Int), x.root⟩) 120); have HA8 := Lib.hid hA; replace HO := Lib.hid (ownsRow_below HO.out hbA); replace M := Lib.hid (M.out.call hbA); clear hA hbA)
          | (at_builtin; refine wpList_append7 rfl (.tmp 65) (.tmp 70) rfl rfl w.heap.size v7 _ rfl HO.out _ ⟨true, (LA.length : Int), x.root⟩ rfl HA8.out (by have := HPL.out; omega) M.out.below.size ?_; intro v9 w9 ho9 hg9; have HO9 := Lib.hid ho9; have HB9 := Lib.hid (M.out.below.grown hg9 M.out.below.size (fun k hk => (HO.out.lt k hk).1)); clear ho9 hg9))
        go_ret2
        exact ⟨v9, rfl, by rw [HF.out]; exact HO9.out, HB9.out⟩
theorem rPath_any (t : Option AvT) (cs : Array Value) (i : Int) (w : World) (he : Env w) (h : RO w cs t) (hm : manyO t ≤ 1048576) (hz : ∀ p ∈ pairsO t, p.1.size + p.2.size ≤ 1048576) :
    Calls Tryd.prog 89 #[.agg cs, .int .i64 i] w (P7Post (pathO t i).1 (match (pathO t i).2 with | none => 0 | some k => (k : Int)) w) := by
  by_cases hi : 0 ≤ i ∧ i < (manyO t : Int)
  · cases t with
    | none => simp [manyO] at hi; omega
    | some t =>
      obtain ⟨k, rfl⟩ : ∃ k : Nat, i = (k : Int) := ⟨i.toNat, by omega⟩
      have hk : k < t.many := by have : manyO (some t) = t.many := rfl; omega
      have e : pathO (some t) (k : Int) = (t.path k, none) := by
        unfold pathO; dsimp only; rw [if_pos (by omega)]; rfl
      rw [e]
      exact rPath_some t cs k w he h hk hm hz
  · have e : pathO t i = ([], some 1) := by
      cases t with
      | none => rfl
      | some t =>
        unfold pathO; dsimp only
        exact if_neg (show ¬ (0 ≤ i ∧ i < (t.many : Int)) from hi)
    rw [e]
    exact rPath_no t cs i w h hm (by omega)
end Go.Proofs.YtfmfemmknccfmaaDoor
namespace Go.Proofs.YtfmfemmknccfmaaDoor
set_option linter.unusedVariables false
set_option linter.unusedSimpArgs false
open Go.RowKit
set_option maxRecDepth 100000
set_option linter.unusedSimpArgs false
set_option linter.unusedVariables false
abbrev sB (n : UInt8) : ByteArray := { data := #[n] }
theorem blB (a b : UInt8) : bl (sB a) (sB b) = (a < b || (a == b && false)) := by
  unfold bl
  rw [ByteArray.toList_eq, ByteArray.toList_eq]
  rfl
def sT1 : AvT := .leaf (sB 98) (sB 49)
def sT2 : AvT := .node (.leaf (sB 97) (sB 50)) (.leaf (sB 98) (sB 49))
def sT3 : AvT := .node (.leaf (sB 97) (sB 50)) (.node (.leaf (sB 98) (sB 49)) (.leaf (sB 99) (sB 51)))
theorem neB {a b : UInt8} (h : a ≠ b) : sB a ≠ sB b := fun e => h (by injection e with e; simpa using e)
theorem sT2_eq : setO (some sT1) (sB 97) (sB 50) = sT2 := by
  show AvT.set _ _ (.leaf _ _) = _
  rw [AvT.set, if_neg (neB (by decide)), if_pos (by rw [blB]; decide)]
  rfl
theorem sT3_eq : setO (some sT2) (sB 99) (sB 51) = sT3 := by
  show AvT.set _ _ (.node _ _) = _
  rw [AvT.set, if_neg (show ¬ bl (sB 99) (AvT.leaf (sB 98) (sB 49)).least = true by rw [show (AvT.leaf (sB 98) (sB 49)).least = sB 98 from rfl, blB]; decide), AvT.set, if_neg (neB (by decide)), if_neg (by rw [blB]; decide)]
  rfl
theorem sT3_get : getO (some sT3) (sB 97) = some (sB 50) := by
  show AvT.get _ (.node _ _) = _
  rw [AvT.get, if_pos (show bl (sB 97) (AvT.node (.leaf (sB 98) (sB 49)) (.leaf (sB 99) (sB 51))).least = true by rw [show (AvT.node (.leaf (sB 98) (sB 49)) (.leaf (sB 99) (sB 51))).least = sB 98 from rfl, blB]; decide), AvT.get, if_pos rfl]
set_option maxHeartbeats 2000000 in
theorem avsure_any (w : World) (he : Env w) : Calls Tryd.prog 7 #[] w fun e w' => e = .returned (.bool true) ∧ Below w.heap.size w w' := by
  have H1 := Lib.hid (set_nil (sB 98) (sB 49) w he (by decide))
  have H2 := Lib.hid (fun w g (he : Env w) (h : TreeAt w g sT1) => set_any (.pointer (some ⟨g, 0, none⟩)) (some sT1) (sB 97) (sB 50) w he h.toO (by decide) (by decide))
  have H3 := Lib.hid (fun w g (he : Env w) (h : TreeAt w g sT2) => set_any (.pointer (some ⟨g, 0, none⟩)) (some sT2) (sB 99) (sB 51) w he h.toO (by decide) (by decide))
  have H4 := Lib.hid (fun w g (h : TreeAt w g sT3) => get_any (.pointer (some ⟨g, 0, none⟩)) (sB 97) (some sT3) w h.toO)
  have H5 := Lib.hid (fun w g (h : TreeAt w g sT3) => len_some w h)
  have H6 := Lib.hid (fun w g (h : TreeAt w g sT3) => height_some w h)
  rw [show AvT.leaf (sB 98) (sB 49) = sT1 from rfl] at H1
  rw [sT2_eq] at H2
  rw [sT3_eq] at H3
  rw [sT3_get] at H4
  rw [show (sT3.many : Int) = 3 from rfl] at H5
  rw [show (sT3.height : Int) = 3 from rfl] at H6
  have HE := Lib.hid he
  have hk : ((sB 50).toList == (sB 50).toList) = true := by simp
  clear he
  go_enter Tryd.func7, Tryd.ntmps7
  go_wp2_with (first
    | (go_at_call 35; (with_reducible refine H1.out.mono ?_); rintro e w1 ⟨g1, rfl, ht, hb⟩; have HT := Lib.hid ht; have HB := Lib.hid hb; clear ht hb)
    | (go_at_call 35; (with_reducible refine (H2.out _ g1 (HE.out.below HB.out HE.out.lt) HT.out).mono ?_); rintro e w2 ⟨g2, rfl, ht, hb⟩; replace HT := Lib.hid ht; replace HB := Lib.hid (HB.out.trans (hb.mono HB.out.size)); clear ht hb)
    | (go_at_call 35; (with_reducible refine (H3.out _ g2 (HE.out.below HB.out HE.out.lt) HT.out).mono ?_); rintro e w3 ⟨g3, rfl, ht, hb⟩; replace HT := Lib.hid ht; replace HB := Lib.hid (HB.out.trans (hb.mono HB.out.size)); clear ht hb)
    | (go_at_call 34; (with_reducible refine (H4.out _ g3 HT.out).mono ?_); rintro e w4 ⟨rfl, rfl⟩; rw [show strO (some (sB 50)) = sB 50 from rfl, show (some (sB 50)).isSome = true from rfl])
    | (go_at_call 16; (with_reducible refine (H5.out _ g3 HT.out).mono ?_); rintro e w5 ⟨rfl, rfl⟩)
    | (go_at_call 36; (with_reducible refine (H6.out _ g3 HT.out).mono ?_); rintro e w6 ⟨rfl, rfl⟩))
  go_ret
  exact ⟨rfl, HB.out⟩
end Go.Proofs.YtfmfemmknccfmaaDoor
namespace Go.Proofs.YtfmfemmknccfmaaDoor
set_option linter.unusedVariables false
set_option linter.unusedSimpArgs false
open Go.ChangeShapes Go.WideShapes Go.ChangeAt Go.RowKit Go.Proofs
set_option maxRecDepth 100000
set_option linter.unusedSimpArgs false
set_option linter.unusedVariables false
/-- an Act -/
structure AvA where
  kind : Int
  key : ByteArray
  val : ByteArray
instance : Inhabited AvA := ⟨⟨0, ⟨#[]⟩, ⟨#[]⟩⟩⟩
def AvA.cells (t : AvA) : List Value := [.int .i64 t.kind, .string t.key, .string t.val]
def AvA.kOk (t : AvA) : Prop := -9223372036854775808 ≤ t.kind ∧ t.kind ≤ 9223372036854775807
theorem avcellsI : Tryd.prog.cellsOf 3 = 1 := by kernel_rfl
theorem avcellsS : Tryd.prog.cellsOf 9 = 1 := by kernel_rfl
theorem avcellsA : Tryd.prog.cellsOf 88 = 3 := by kernel_rfl
theorem avone_of_take {α : Type} {l : List α} {k : Nat} {v : α} (h : (l.drop k).take 1 = [v]) : l[k]? = some v := by
  have h1 : ((l.drop k).take 1)[0]? = some v := by rw [h]; rfl
  rw [List.getElem?_take, if_pos (by omega), List.getElem?_drop, Nat.add_zero] at h1
  exact h1
theorem bulk_two {H : Type} {d e : DataW H} {i j : Nat} (hij : i < j) : ∀ {l : List (DataW H)}, l[i]? = some d → l[j]? = some e → ∀ k, i = k → Rows.uptoBulk d + Rows.uptoBulk e ≤ Rows.uptoBulkAll l := by
  induction i generalizing j with
  | zero =>
    intro l h1 h2 k _
    cases l with
    | nil => simp at h1
    | cons x r =>
      simp at h1
      subst h1
      obtain ⟨j', rfl⟩ : ∃ j', j = j' + 1 := ⟨j - 1, by omega⟩
      have := bulk_mem (List.mem_of_getElem? (by simpa using h2 : r[j']? = some e))
      simp only [Rows.uptoBulkAll]; omega
  | succ i ih =>
    intro l h1 h2 k _
    cases l with
    | nil => simp at h1
    | cons x r =>
      obtain ⟨j', rfl⟩ : ∃ j', j = j' + 1 := ⟨j - 1, by omega⟩
      have := ih (j := j') (by omega) (l := r) (by simpa using h1) (by simpa using h2) i rfl
      simp only [Rows.uptoBulkAll]; omega
theorem avact_raw {H : Type} {enc : TypeId × Value → H} {W : World} {fuel : Nat} {cs : List Value} {x : DataW H × List MemPlace} (h : DataW.trod enc Tryd.prog W 0 (fun _ => true) true fuel 88 cs = some x) :
    ∃ t : AvA, cs = t.cells ∧ t.kOk ∧ t.key.size + t.val.size ≤ Rows.uptoBulk x.1 := by
  obtain ⟨xs, m, _, rfl, hlen, hxl, hf⟩ := DataW.trod_struct Tryd.underlying88 h
  rw [avcellsA] at hlen
  simp only [List.size_toArray, List.length_cons, List.length_nil] at hxl
  have g : ∀ i, i < 3 → ∃ y, xs[i]? = some y := fun i hi => ⟨xs[i], List.getElem?_eq_getElem (by omega)⟩
  obtain ⟨y0, e0⟩ := g 0 (by omega)
  obtain ⟨y1, e1⟩ := g 1 (by omega)
  obtain ⟨y2, e2⟩ := g 2 (by omega)
  have f0 : DataW.trod enc Tryd.prog W 0 (fun _ => true) true m 3 ((cs.drop 0).take (Tryd.prog.cellsOf 3)) = xs[0]? := hf 0 _ rfl
  have f1 : DataW.trod enc Tryd.prog W 0 (fun _ => true) true m 9 ((cs.drop 1).take (Tryd.prog.cellsOf 9)) = xs[1]? := hf 1 _ rfl
  have f2 : DataW.trod enc Tryd.prog W 0 (fun _ => true) true m 9 ((cs.drop 2).take (Tryd.prog.cellsOf 9)) = xs[2]? := hf 2 _ rfl
  rw [e0, avcellsI] at f0
  rw [e1, avcellsS] at f1
  rw [e2, avcellsS] at f2
  obtain ⟨kd, hk, _, wk⟩ := DataW.trod_int Tryd.underlying3 f0
  obtain ⟨s1, h1, x1, _⟩ := DataW.trod_string Tryd.underlying9 f1
  obtain ⟨s2, h2, x2, _⟩ := DataW.trod_string Tryd.underlying9 f2
  have hk0 := avone_of_take hk
  have h10 := avone_of_take h1
  have h20 := avone_of_take h2
  refine ⟨⟨kd, s1, s2⟩, ?_, bounds_i64 wk, ?_⟩
  · apply List.ext_getElem?
    intro i
    rcases (by omega : i = 0 ∨ i = 1 ∨ i = 2 ∨ 3 ≤ i) with rfl | rfl | rfl | h3
    · rw [hk0]; rfl
    · rw [h10]; rfl
    · rw [h20]; rfl
    · rw [List.getElem?_eq_none (by omega), List.getElem?_eq_none (by simp [AvA.cells]; omega)]
  · have m1 : (xs.map (·.1))[1]? = some y1.1 := by rw [List.getElem?_map, e1]; rfl
    have m2 : (xs.map (·.1))[2]? = some y2.1 := by rw [List.getElem?_map, e2]; rfl
    have := bulk_two (by omega : 1 < 2) m1 m2 1 rfl
    rw [x1, x2] at this
    simp only [Rows.uptoBulk, Array.length_toList] at this ⊢
    show s1.data.size + s2.data.size ≤ _
    omega
def AvActs (W : World) (v : Value) (ts : List AvA) : Prop :=
  ∃ a cap, v = .slice a ts.length cap ∧ ts.length ≤ cap ∧ ts.length ≤ maxLen ∧ (ts = [] ∨ ∃ b off, a = some ⟨b, off, none⟩ ∧ b < W.heap.size ∧ ∀ i t, ts[i]? = some t → W.rangeAt b (off + i * 3) t.cells)
theorem AvActs.below {w w' : World} {v : Value} {ts : List AvA} (h : AvActs w v ts) (hb : Below w.heap.size w w') : AvActs w' v ts := by
  obtain ⟨a, cap, rfl, hc, hm, hx⟩ := h
  refine ⟨a, cap, rfl, hc, hm, hx.imp id ?_⟩
  rintro ⟨b, off, rfl, hlt, hx⟩
  exact ⟨b, off, rfl, Nat.lt_of_lt_of_le hlt hb.size, fun i t hi j v hv => (hb.cell (p := ⟨b, off + i * 3 + j, none⟩) hlt).trans (hx i t hi j v hv)⟩
theorem AvActs.len {w : World} {v : Value} {ts : List AvA} (h : AvActs w v ts) : ∃ a cap, v = .slice a ts.length cap := by
  obtain ⟨a, cap, e, _⟩ := h
  exact ⟨a, cap, e⟩
theorem AvActs.at {w : World} {a : Option Addr} {n cap : Nat} {ts : List AvA} (h : AvActs w (.slice a n cap) ts) (i : Nat) (t : AvA) (hi : ts[i]? = some t) :
    ∃ b off, a = some ⟨b, off, none⟩ ∧ b < w.heap.size ∧ w.cell? ⟨b, off + i * 3, none⟩ = some (.int .i64 t.kind) ∧ w.cell? ⟨b, off + i * 3 + 1, none⟩ = some (.string t.key) ∧ w.cell? ⟨b, off + i * 3 + 2, none⟩ = some (.string t.val) := by
  obtain ⟨a', cap', e, hc, hm, hx⟩ := h
  injection e with e1 e2 e3
  subst e1
  rcases hx with rfl | ⟨b, off, rfl, hlt, hx⟩
  · simp at hi
  · exact ⟨b, off, rfl, hlt, hx i t hi 0 _ rfl, hx i t hi 1 _ rfl, hx i t hi 2 _ rfl⟩
theorem acts7_arg {H : Type} {enc : TypeId × Value → H} {W : World} {a : Option Addr} {len cap : Nat} {d : DataW H} {p : List MemPlace} (h : DataW.Trod enc Tryd.prog W 0 (fun _ => true) true 22 (.slice a len cap) d p) :
    ∃ ts : List AvA, ts.length = len ∧ AvActs W (.slice a len cap) ts ∧ (∀ t ∈ ts, t.kOk) ∧ (∀ t ∈ ts, t.key.size + t.val.size ≤ Rows.uptoBulk d) := by
  obtain ⟨fuel, hf⟩ := h
  rcases Deep.open_slice Tryd.underlying22 hf with ⟨hcs, hx⟩ | ⟨x, l, c, m, n, D, Pl, hcs, _, hl, hm, hmm, hx, hel⟩
  · simp [Value.cells] at hcs
    obtain ⟨rfl, rfl, rfl⟩ := hcs
    exact ⟨[], rfl, ⟨_, _, rfl, by simp, by simp [maxLen], .inl rfl⟩, by simp, by simp⟩
  · simp [Value.cells] at hcs
    obtain ⟨rfl, rfl, rfl⟩ := hcs
    simp only [if_true] at hmm
    simp only [Prod.mk.injEq] at hx
    obtain ⟨rfl, _⟩ := hx
    have key : ∀ i, i < len → ∃ t : AvA, (∀ j v, t.cells[j]? = some v → W.cell? (x.add (i * 3 + j)) = some v) ∧ t.kOk ∧ t.key.size + t.val.size ≤ Rows.uptoBulk (D i) := by
      intro i hi
      obtain ⟨cs', h1, h2⟩ := hel i (by omega)
      rw [avcellsA] at h1
      obtain ⟨_, hlen, hcell⟩ := World.cells?_some h1
      obtain ⟨t, rfl, hok, hbulk⟩ := avact_raw h2
      refine ⟨t, fun j v hv => ?_, hok, hbulk⟩
      have hj : j < 3 := by have := (List.getElem?_eq_some_iff.1 hv).1; exact this
      rw [← hv, ← hcell j hj]
      by_cases hj0 : j = 0 <;> by_cases hi0 : i * 3 = 0 <;> simp [hj0, hi0, Addr.add, Nat.add_assoc]
    obtain ⟨F, hF⟩ := Deep.choose_lt key
    have hget : ∀ i t, ((List.range len).map F)[i]? = some t → i < len ∧ F i = t := fun i t hi => by
      have hil : i < len := by have := (List.getElem?_eq_some_iff.1 hi).1; simpa using this
      rw [List.getElem?_map, List.getElem?_range hil] at hi
      cases hi; exact ⟨hil, rfl⟩
    refine ⟨(List.range len).map F, by simp, ⟨some x, cap, by simp, by simp; omega, by simp; omega, ?_⟩, fun t ht => ?_, fun t ht => ?_⟩
    · by_cases hl0 : len = 0
      · left; subst hl0; rfl
      · right
        obtain ⟨b, off, spot⟩ := x
        have h0 := (hF 0 (by omega)).1 0 _ rfl
        have hspot : spot = none := by simpa [Addr.add] using World.cell?_spot h0
        subst hspot
        refine ⟨b, off, rfl, World.block_lt_of_cell? _ _ h0, fun i t hi => ?_⟩
        obtain ⟨hil, rfl⟩ := hget i t hi
        refine fun j v hv => ?_
        have := (hF i hil).1 j v hv
        rw [Addr.add_mid] at this
        rw [Nat.add_assoc]; exact this
    · obtain ⟨i, hi, rfl⟩ := List.mem_map.1 ht
      exact (hF i (List.mem_range.1 hi)).2.1
    · obtain ⟨i, hi, rfl⟩ := List.mem_map.1 ht
      have h1 := (hF i (List.mem_range.1 hi)).2.2
      have h2 := bulk_mem (d := D i) (l := (List.range len).map D) (List.mem_map.2 ⟨i, hi, rfl⟩)
      simp only [Rows.uptoBulk]
      omega
end Go.Proofs.YtfmfemmknccfmaaDoor

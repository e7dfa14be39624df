/- Part 34 of the proof. -/
import Derived.RangeFuncBox
import Derived.Great.BuildSlice
import Derived.OrdersIn
import Derived.RangeFuncCalls
import Derived.TacticsIn
import Derived.Test.YtadolfacjolbkaaDoorSh4
import Derived.Test.YtadolfacjolbkaaDoorSh29
import Derived.Test.YtadolfacjolbkaaDoorSh33
namespace Go.Proofs.YtadolfacjolbkaaDoor
set_option linter.unusedVariables false
set_option linter.unusedSimpArgs false
open Go.RowKit Go.Shelf
set_option maxRecDepth 100000
set_option linter.unusedSimpArgs false
set_option linter.unusedVariables false
def ptrV (g : Nat) : Value := .pointer (some ⟨g, 0, none⟩)
def ptrs (gs : List Nat) : List Value := gs.map ptrV
theorem ptrs_length (gs : List Nat) : (ptrs gs).length = gs.length := by simp [ptrs]
theorem ptrs_append (a b : List Nat) : ptrs (a ++ b) = ptrs a ++ ptrs b := by simp [ptrs]
theorem ptrs_one (gs : List Nat) : ∀ v ∈ ptrs gs, v.oneCell' = true := by
  intro v hv
  simp only [ptrs, List.mem_map] at hv
  obtain ⟨i, _, rfl⟩ := hv
  rfl
theorem infoPT : (Tryd.prog.info? 26).map (fun i => (i.zero, i.size, i.bytes)) = some (some (.pointer none), 1, 8) := by kernel_rfl
theorem wrap_i64 (j : Nat) (h : j ≤ 1099511627776) : IntKind.i64.wrap (j : Int) = (j : Int) := by
  exact IntWalk.i64_in _ (by omega)
theorem ptr_fill (g : Nat) : Instr.fill (fun i => some (i * 1, 1)) ((Array.range (1 * 1)).map ((Value.pointer none).cells[· % (Value.pointer none).cells.size]!)) [(0, ptrV g)] = some #[ptrV g] := by kernel_rfl
theorem wp_ptr1 {o : Oper} {a : Act} {w : World} {K : Act → World → Prop} {Q : Exit → Act → World → Prop} (x : Operand) (ho : o.op = .buildSlice 82 1 #[(0, x)]) (g : Nat) (hx : a.eval x = ptrV g)
    (h : K (a.put o.dst (.slice (some ⟨w.heap.size, 0, none⟩) 1 1)) (w.alloc (.cells #[ptrV g] 26))) : o.wp Tryd.prog a w K Q := by
  obtain ⟨i0, hi, hz0, hz1, hz2⟩ := info_parts infoPT
  refine wp_buildSlice 82 26 1 #[(0, x)] ho #[ptrV g] i0 _ Tryd.underlying82 hi hz0 (by rw [hz1]; decide) (by rw [hz1]; decide) ?_ h
  rw [hz1]
  simpa [hx] using ptr_fill g
theorem wp_append_ptr {w : World} {o : Oper} {a : Act} {K : Act → World → Prop} {Q : Exit → Act → World → Prop} (s x : Operand)
    (ho : o.op = .call { callee := .builtin .append, args := #[s, x], argTypes := #[82, 82] }) (hty : o.type = 82)
    (base : Nat) (v : Value) (gs : List Nat) (hs : a.eval s = v) (hown : w.ownsRow base 26 1 v gs.length (ptrs gs)) (b g : Nat) (hx : a.eval x = .slice (some ⟨b, 0, none⟩) 1 1) (hy : w.heap[b]? = some (.cells #[ptrV g] 26 (0, 0))) (hl : gs.length + 1 ≤ 1099511627776) (hb : base ≤ w.heap.size)
    (h : ∀ v' w', w'.ownsRow base 26 1 v' (gs ++ [g]).length (ptrs (gs ++ [g])) → w.grownBy w' v.ownBlock → K (a.put o.dst v') w') : o.wp Tryd.prog a w K Q := by
  obtain ⟨i0, hi, hz0, hz1, hz2⟩ := info_parts infoPT
  obtain ⟨v', w', hr, h1, h2, _, _⟩ := run_append_own_at w base 82 82 26 i0 _ 1 8 Tryd.underlying82 hi hz0 hz1 hz2 rfl (by decide) v gs.length (ptrs gs) hown ⟨b, 0, none⟩ 1 1 (ptrs [g]) rfl
    (fun j u hj => by rw [Addr.add_mid, Nat.zero_add, cell_of_row w b j _ _ _ hy]; simpa [ptrs] using hj) (ptrs_one [g]) (by unfold maxLen; omega) (by omega) hb
  unfold Oper.wp execOp
  simp only [ho, hty, resolve, invoke, builtin, Sem.run_bind, Sem.run_pure, Result.andThen_ok, List.map_toArray, List.map_cons, List.map_nil, hs, hx, hr]
  exact h v' w' (by rw [List.length_append, ptrs_append]; exact h1) h2
theorem sliceKhi (a : Option Addr) (n cap q : Nat) (hq : q ≤ cap) (w : World) : (Instr.slice 24 (.slice a n cap) none (some (.int .i64 (q : Int))) none).run Tryd.prog w = .ok (.slice (cutA a cap 0) q cap) w := by
  have he : Tryd.prog.elem 24 = 87 := by kernel_rfl
  have hs : (sizeOf 87).run Tryd.prog w = .ok 2 w := by kernel_rfl
  rw [run_slice_h w 24 a n cap (by rw [he]; exact Tryd.underlying24) .i64 (q : Int) (by omega) (by omega), he, hs]
  simp [Result.andThen_ok, sliced, cutA]
theorem sliceK_first (ab ao n c q : Nat) (hq : q ≤ c) (w : World) : (Instr.slice 24 (.slice (some ⟨ab, ao, none⟩) n c) none (some (.int .i64 (q : Int))) none).run Tryd.prog w = .ok (.slice (some ⟨ab, ao, none⟩) q c) w := by
  rw [sliceKhi _ _ _ _ hq]
  unfold cutA
  split
  · rfl
  · show Result.ok (Value.slice (some (Addr.add ⟨ab, ao, none⟩ 0)) _ _) w = _
    rw [Addr.add_mid]; rfl
theorem sliceP_first (ab ao n c q : Nat) (hq : q ≤ c) (w : World) : (Instr.slice 82 (.slice (some ⟨ab, ao, none⟩) n c) none (some (.int .i64 (q : Int))) none).run Tryd.prog w = .ok (.slice (some ⟨ab, ao, none⟩) q c) w := by
  have he : Tryd.prog.elem 82 = 26 := by kernel_rfl
  have hs : (sizeOf 26).run Tryd.prog w = .ok 1 w := by kernel_rfl
  rw [run_slice_h w 82 _ n c (by rw [he]; exact Tryd.underlying82) .i64 (q : Int) (by omega) (by omega), he, hs]
  simp [Result.andThen_ok, sliced, Addr.add_mid]
theorem ownsRow_take1 {w : World} {B : Nat} {e : TypeId} {a : Option Addr} {n cap k : Nat} {xs : List Value} (h : w.ownsRow B e 1 (.slice a n cap) n xs) (hk : k ≤ n) (h0 : 0 < n) : w.ownsRow B e 1 (.slice a k cap) k (xs.take k) := by
  obtain ⟨h1, h2⟩ := h
  refine ⟨by rw [List.length_take, h1]; omega, .inr ?_⟩
  rcases h2 with ⟨e1, e2⟩ | ⟨g, cap', cur, e1, hb, hg, hc, hm, hs, ht⟩
  · injection e1 with _ e3 _; omega
  · injection e1 with e1 _ e3
    subst e1 e3
    exact ⟨g, cap, cur, rfl, hb, hg, by omega, hm, hs, by rw [← ht, List.take_take, Nat.mul_one, Nat.mul_one, Nat.min_eq_left hk]⟩
theorem TreeAt.kt {w w' : World} (h : ∀ (j : Nat) (cs : Array Value), w.heap[j]? = some (Obj.cells cs 79 (0, 0)) → w'.heap[j]? = w.heap[j]?) : ∀ {t : AvT} {g : Nat}, TreeAt w g t → TreeAt w' g t
  | .leaf k v, g, ht => (h _ _ ht).trans ht
  | .node a b, g, ht => by
    obtain ⟨ga, gb, hl, ht, h1, h2⟩ := ht
    exact ⟨ga, gb, hl, (h _ _ ht).trans ht, TreeAt.kt h h1, TreeAt.kt h h2⟩
/-- the stack's trees -/
def TreesAt (w : World) : List Nat → List AvT → Prop
  | [], [] => True
  | g :: gs, t :: ts => TreeAt w g t ∧ TreesAt w gs ts
  | _, _ => False
theorem TreesAt.len {w : World} : ∀ {gs : List Nat} {ts : List AvT}, TreesAt w gs ts → gs.length = ts.length
  | [], [], _ => rfl
  | _ :: _, _ :: _, h => by simp [TreesAt.len h.2]
theorem all2_kt {w w' : World} (h : ∀ (j : Nat) (cs : Array Value), w.heap[j]? = some (Obj.cells cs 79 (0, 0)) → w'.heap[j]? = w.heap[j]?) {gs : List Nat} {st : List AvT} (ha : TreesAt w gs st) : TreesAt w' gs st := by
  induction gs generalizing st with
  | nil => cases st with
    | nil => trivial
    | cons t st => exact ha.elim
  | cons g gs ih => cases st with
    | nil => exact ha.elim
    | cons t st => exact ⟨ha.1.kt h, ih ha.2⟩
structure BdM (w W : World) (Bs : Nat) (sv : Value) (B6 : Nat) (aa : Option Addr) (ac k : Nat) (vp : Value) (gs : List Nat) (st : List AvT) : Prop where
  box : Boxed W Bs 23 sv
  l : Boxed W w.heap.size 24 (.slice aa k ac)
  r : Boxed W (w.heap.size + 1) 26 (.pointer none)
  e : Boxed W (w.heap.size + 1 + 1) 34 .nilIface
  p : Boxed W B6 82 vp
  own : W.ownsRow (w.heap.size + 3) 26 1 vp gs.length (ptrs gs)
  trees : TreesAt W gs.reverse st
  below : Below w.heap.size w W
  b6 : w.heap.size + 3 ≤ B6
  bs : w.heap.size + 3 ≤ Bs
section
variable {w W : World} {Bs : Nat} {sv : Value} {B6 : Nat} {aa : Option Addr} {ac k : Nat} {vp : Value} {gs : List Nat} {st : List AvT}
theorem ownsRow_same {X X' : World} {B : Nat} {e : TypeId} {size n : Nat} {v : Value} {xs : List Value} (h : X.ownsRow B e size v n xs) (hk : ∀ (j : Nat) (cs : Array Value) (t : TypeId), X.heap[j]? = some (Obj.cells cs t (0, 0)) → X'.heap[j]? = X.heap[j]?) : X'.ownsRow B e size v n xs := by
  refine ⟨h.1, ?_⟩
  rcases h.2 with hn | ⟨g, cap, cur, rfl, hb, hg, rest⟩
  · exact .inl hn
  · exact .inr ⟨g, cap, cur, rfl, hb, (hk _ _ _ hg).trans hg, rest⟩
theorem BdM.keep (M : BdM w W Bs sv B6 aa ac k vp gs st) {W' : World} (hB : Below w.heap.size w W') (h : ∀ (j : Nat) (cs : Array Value) (t : TypeId), W.heap[j]? = some (Obj.cells cs t (0, 0)) → W'.heap[j]? = W.heap[j]?) : BdM w W' Bs sv B6 aa ac k vp gs st :=
  ⟨(h _ _ _ M.box).trans M.box, (h _ _ _ M.l).trans M.l, (h _ _ _ M.r).trans M.r, (h _ _ _ M.e).trans M.e, (h _ _ _ M.p).trans M.p, ownsRow_same M.own h, all2_kt (fun j cs => h j cs _) M.trees, hB, M.b6, M.bs⟩
theorem BdM.call (M : BdM w W Bs sv B6 aa ac k vp gs st) {W' : World} (hb : Below W.heap.size W W') : BdM w W' Bs sv B6 aa ac k vp gs st :=
  M.keep (M.below.trans (hb.mono M.below.size)) fun j cs t hj => hb.block j (Array.getElem?_eq_some_iff.1 hj).1
theorem BdM.drew (M : BdM w W Bs sv B6 aa ac k vp gs st) : BdM w W.drew Bs sv B6 aa ac k vp gs st := M.call (Below.refl _ _).drew
theorem BdM.ownF (M : BdM w W Bs sv B6 aa ac k vp gs st) {W' : World} {row : Option Nat} {D : Nat} (hD : w.heap.size ≤ D) (hg : W.grownBy W' row) (hr : ∀ r, row = some r → D ≤ r ∧ ∃ o : Obj, W.heap[r]? = some o ∧ o.isCells = false) : BdM w W' Bs sv B6 aa ac k vp gs st :=
  M.keep (M.below.grown hg M.below.size (fun r e => Nat.le_trans hD (hr r e).1)) fun j cs t hj => hg.block j (Array.getElem?_eq_some_iff.1 hj).1 fun e => by
    obtain ⟨_, o, ho, hc⟩ := hr j e.symm
    rw [hj] at ho; cases ho; cases hc
theorem owns_wide_pt {X : World} {base : Nat} {v : Value} {n : Nat} {xs : List Value} (h : X.ownsRow base 26 1 v n xs) : ∃ a c, v = .slice a n c := by
  rcases h.2 with ⟨rfl, rfl⟩ | ⟨g, c, cur, rfl, _⟩
  · exact ⟨_, _, rfl⟩
  · exact ⟨_, _, rfl⟩
/-- a store into the box of the pairs that are left -/
theorem BdM.setL (M : BdM w W Bs sv B6 aa ac k vp gs st) (k' : Nat) : BdM w (W.setCell ⟨w.heap.size, 0, none⟩ (.slice aa k' ac)) Bs sv B6 aa ac k' vp gs st := by
  have hg := grownBy_setCell' W w.heap.size (.slice aa k' ac)
  have hb6 := M.b6
  have hbs := M.bs
  refine ⟨M.box.kept hg (by simp; omega), M.l.set _, M.r.kept hg (by simp), M.e.kept hg (by simp; omega), M.p.kept hg (by simp; omega), M.own.kept hg ?_, all2_kt (fun j cs hj => hg.block j (Array.getElem?_eq_some_iff.1 hj).1 fun e => ?_) M.trees, M.below.setCell (p := ⟨w.heap.size, 0, none⟩) (Nat.le_refl _) _, M.b6, M.bs⟩
  · cases hv : vp.ownBlock with
    | none => exact .inl rfl
    | some x => right; have := (M.own.lt x hv).1; intro e; injection e; omega
  · injection e with e; subst e
    have := (show W.heap[w.heap.size]? = _ from M.l).symm.trans hj
    simp at this
/-- a tree is laid on top of what is left of the stack -/
theorem BdM.push (M : BdM w W Bs sv B6 aa ac k vp gs st) {W2 : World} (hW2 : Below W.heap.size W W2) {g : Nat} {t : AvT} (ht : TreeAt W2 g t) {vc : Value} {gsc : List Nat} {stc : List AvT} (hc : W.ownsRow (w.heap.size + 3) 26 1 vc gsc.length (ptrs gsc))
    (htc : TreesAt W gsc.reverse stc) {W3 : World} {v' : Value} (hg : (W2.alloc (.cells #[ptrV g] 26)).grownBy W3 vc.ownBlock) (ho : W3.ownsRow (w.heap.size + 3) 26 1 v' (gsc ++ [g]).length (ptrs (gsc ++ [g]))) :
    BdM w (W3.setCell ⟨B6, 0, none⟩ v') Bs sv B6 aa ac k v' (gsc ++ [g]) (t :: stc) ∧ KeepsOthers W (W3.setCell ⟨B6, 0, none⟩ v') ∧ Boxed W3 B6 82 vp ∧ BdM w W2 Bs sv B6 aa ac k vp gs st ∧ Boxed W3 w.heap.size 24 (.slice aa k ac) := by
  have M1 := M.call hW2
  have hW4 := hW2.trans ((below_alloc W2 (.cells #[ptrV g] 26)).mono hW2.size)
  have M2 := M.call hW4
  have hc2 := ownsRow_same hc fun j cs t hj => hW4.block j (Array.getElem?_eq_some_iff.1 hj).1
  have hrow : ∀ x, vc.ownBlock = some x → w.heap.size + 3 ≤ x ∧ ∃ cur, (W2.alloc (.cells #[ptrV g] 26)).heap[x]? = some (.cells cur 26 (0, 0)) := fun x hx => by
    refine ⟨(hc2.lt x hx).1, ?_⟩
    rcases hc2.2 with ⟨rfl, _⟩ | ⟨gg, cap, cur, rfl, hb, hgg, rest⟩
    · simp [Value.ownBlock] at hx
    · obtain rfl : gg = x := by simpa [Value.ownBlock] using hx
      exact ⟨cur, hgg⟩
  have hne : ∀ {B : Nat} {T : TypeId} {u : Value}, Boxed (W2.alloc (.cells #[ptrV g] 26)) B T u → T ≠ 26 → some B ≠ vc.ownBlock := fun hb hT => hb.not_row hT hc2
  have p3 := M2.p.kept hg (hne M2.p (by decide))
  have hset := grownBy_setCell' W3 B6 v'
  have hb6 := M.b6
  have hB3 := M2.below.grown hg M2.below.size (fun x hx => by have := (hrow x hx).1; omega)
  have ht3 : ∀ {gl : List Nat} {sl : List AvT}, TreesAt (W2.alloc (.cells #[ptrV g] 26)) gl sl → TreesAt (W3.setCell ⟨B6, 0, none⟩ v') gl sl := fun h =>
    all2_kt (fun j cs hj => hset.block j (Array.getElem?_eq_some_iff.1 hj).1 fun e => by
      injection e with e; subst e
      have := (show W3.heap[j]? = _ from p3).symm.trans hj
      simp at this) (all2_kt (fun j cs hj => hg.block j (Array.getElem?_eq_some_iff.1 hj).1 fun e => by
      obtain ⟨_, cur, hcur⟩ := hrow j e.symm
      rw [hj] at hcur
      simp at hcur) h)
  refine ⟨⟨(M2.box.kept hg (hne M2.box (by decide))).kept hset ?_, (M2.l.kept hg (hne M2.l (by decide))).kept hset (by simp; omega), (M2.r.kept hg ?_).kept hset (by simp; omega), (M2.e.kept hg (hne M2.e (by decide))).kept hset (by simp; omega), p3.set v', ho.kept hset (.inr (p3.not_row (by decide) ho).symm), ?_, hB3.setCell (p := ⟨B6, 0, none⟩) (by show w.heap.size ≤ B6; omega) _, M.b6, M.bs⟩, ?_, p3, M1, M2.l.kept hg (hne M2.l (by decide))⟩
  · intro e; injection e with e
    have h1 := M2.box
    rw [e] at h1
    have := (show _ = _ from h1).symm.trans M2.p
    simp at this
  · intro e
    have := (hrow _ e.symm).1; omega
  · rw [List.reverse_append]
    exact ht3 (gl := g :: gsc.reverse) ⟨ht.below (below_alloc W2 (.cells #[ptrV g] 26)), all2_kt (fun j cs hj => hW4.block j (Array.getElem?_eq_some_iff.1 hj).1) htc⟩
  · refine (KeepsOthers.trans ?_ (KeepsOthers.of_grownBy hg fun j o ej hj => ?_)).trans (KeepsOthers.setCell _ _ _)
    · exact ⟨hW4.size, fun j o hj _ => (hW4.block j (Array.getElem?_eq_some_iff.1 hj).1).trans hj⟩
    · obtain ⟨_, cur, hcur⟩ := hrow j ej
      rw [hcur] at hj; cases hj; rfl
theorem kpb_of (M : BdM w W Bs sv B6 aa ac k vp gs st) {W' : World} {k' : Nat} {vp' : Value} {gs' : List Nat} {st' : List AvT} (M' : BdM w W' Bs sv B6 aa ac k' vp' gs' st') (hs : W.heap.size ≤ W'.heap.size) : KpB w.heap.size Bs W W' :=
  ⟨⟨M'.below.os.trans M.below.os.symm, M'.below.tape.trans M.below.tape.symm, M'.below.output.trans M.below.output.symm, hs, fun i hi => (M'.below.block i hi).trans (M.below.block i hi).symm⟩, fun o ho => by
    rw [show W.heap[Bs]? = _ from M.box] at ho; cases ho; exact M'.box⟩
end
end Go.Proofs.YtadolfacjolbkaaDoor
namespace Go.Proofs.YtadolfacjolbkaaDoor
set_option linter.unusedVariables false
set_option linter.unusedSimpArgs false
section
variable {P : Program} {n : Nat}
theorem rowsIn_of (l : Nat) {row : String} {args : Array Value} {w : World} {R : Value → World → Prop} (h : Rows P row args w R) : RowsIn (Fence.wide.inRound l) n P row args w R :=
  fun c cs _ => let ⟨v, w', r, s⟩ := h c cs; ⟨v, w', r, stepsIn_wide.2 s⟩
theorem operIn_of (l : Nat) {o : Oper} {a : Act} {w : World} {K : Act → World → Prop} {Q : Exit → Act → World → Prop} (hd : ∀ c, o.op ≠ .defer c) (h : o.wp P a w K Q) : o.wpIn (Fence.wide.inRound l) n P a w K Q := by
  unfold Oper.wp at h
  unfold Oper.wpIn
  refine ⟨fun _ _ => trivial, ?_⟩
  rw [show (Fence.wide.inRound l).round = some l from rfl, Oper.semAt_some l _ _ hd]
  generalize (execOp a.eval o).run P w = r at *
  cases r with
  | ok x w' =>
    cases x with
    | value v => exact h
    | skip => exact h
    | defer d => exact h
    | enter f args => exact ⟨fun h' => (by cases h'), CallsIn.inRound l (callsIn_wide.2 h)⟩
    | row row args => exact ⟨fun h' => (by cases h'), rowsIn_of l h⟩
    | _ => exact h.elim
  | halt x w' => cases x <;> exact h
def noDefer (ops : Array Oper) : Bool := ops.all fun o => match o.op with
  | .defer _ => false
  | _ => true
theorem noDefer_spec {ops : Array Oper} (h : noDefer ops = true) {i : Nat} {o : Oper} (hi : ops[i]? = some o) (c : Call) : o.op ≠ .defer c := fun e => by
  have := (Array.all_eq_true_iff_forall_mem.1 h) o (Array.mem_of_getElem? hi)
  rw [e] at this
  cases this
theorem wpOpIn_of (l : Nat) {ops : Array Oper} (hd : noDefer ops = true) {Q : Exit → Act → World → Prop} {i : Nat} {K : Act → World → Prop} {a : Act} {w : World} (hL : LetsOut Q → False) (h : wpOp P ops Q i K a w) : wpOpIn (Fence.wide.inRound l) n P ops Q i K a w := by
  unfold wpOp at h
  unfold wpOpIn
  cases ho : ops[i]? with
  | none => rw [ho] at h; exact h
  | some o =>
    rw [ho] at h
    simp only at h ⊢
    split
    · rename_i hw; rw [if_pos hw] at h; exact operIn_of l (noDefer_spec hd ho) (h.resolve_right fun h => hL h.2)
    · rename_i hw; rw [if_neg hw] at h; exact ⟨fun _ _ => trivial, h⟩
theorem wpAnyIn_of (l : Nat) {ops : Array Oper} (hd : noDefer ops = true) {Q : Exit → Act → World → Prop} {md : Region.Mode} (hL : LetsOut Q → False) : ∀ (f : Nat) (ls : Array Bool) (a : Act) (w : World), wpAny P md ops Q f ls a w → wpAnyIn (Fence.wide.inRound l) n P md ops Q f ls a w
  | 0, _, _, _, h => h
  | f + 1, ls, a, w, h => ⟨h.1, fun i hi => wpOpIn_of l hd hL (wpOp_mono (fun a' w' h' => wpAnyIn_of l hd hL f _ a' w' h') (h.2 i hi))⟩
theorem wpIn_region_T {l : Nat} (S : World → Prop) (ds : List Nat) {id : Nat} {ops : Array Oper} {Q : Exit → Act → World → Prop} {a : Act} {w : World} (hm : P.follows .mixedOrders = true) (hd : noDefer ops = true) (hL : LetsOut Q → False)
    (h : anyT P .any ops Q S ds ops.size (Array.replicate ops.size false) a w.drew) : (Code.region id ops true).wpIn (Fence.wide.inRound l) n P Q a w :=
  wpIn_region_any hm (wpAnyIn_of l hd hL _ _ _ _ (any_of_T _ _ _ _ h))
end
end Go.Proofs.YtadolfacjolbkaaDoor

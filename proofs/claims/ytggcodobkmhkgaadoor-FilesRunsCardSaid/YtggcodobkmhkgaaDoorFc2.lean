/- Part 2 of the proof. -/
import Derived.Maps.OwnSet
import Derived.Sort.KeysCollected
import Derived.Test.YtggcodobkmhkgaaDoorFc1
namespace Go.Proofs.YtggcodobkmhkgaaDoor
set_option linter.unusedVariables false
set_option linter.unusedSimpArgs false
open Go.RowKit Go.Maps
set_option maxRecDepth 100000
/-- a file: its name, the slice of its bytes, the bytes, how many are safe -/
structure Ent where
  nm : List UInt8
  v : Value
  xs : List Int
  safe : Nat
def entV (e : Ent) : Value := .agg #[e.v, .int .i64 e.safe]
def entKV (e : Ent) : Lit × DataW Value := (.string e.nm, .held (entV e))
def entD (es : List Ent) : DataW Value := .map (es.map entKV)
def heldE (v : Value) : Option (DataW Value × List MemPlace) := some (.held v, [])
def SortedE (es : List Ent) : Prop := es.Pairwise fun a b => bytesBefore a.nm b.nm = true
def insE (e : Ent) : List Ent → List Ent
  | [] => [e]
  | y :: r => if bytesBefore e.nm y.nm then e :: y :: r else y :: insE e r
def delE (n : List UInt8) (es : List Ent) : List Ent := es.filter fun e => !(e.nm == n)
def putE (e : Ent) (es : List Ent) : List Ent := insE e (delE e.nm es)
def getE (n : List UInt8) (es : List Ent) : Option Ent := es.find? fun e => e.nm == n
theorem entD_del (n : List UInt8) (es : List Ent) : (entD es).del (.string n) = entD (delE n es) := by
  unfold entD delE DataW.del
  simp only [List.filter_map, DataW.map.injEq]
  rfl
theorem entD_ins (e : Ent) : ∀ es : List Ent, DataW.insert (entKV e) (es.map entKV) = (insE e es).map entKV
  | [] => rfl
  | y :: r => by
    simp only [List.map_cons, DataW.insert, insE]
    show (if bytesBefore e.nm y.nm = true then _ else _) = _
    split
    · rfl
    · rw [List.map_cons, entD_ins e r]
theorem entD_put (e : Ent) (es : List Ent) : (entD es).put (.string e.nm) (.held (entV e)) = entD (putE e es) := by
  have h := entD_del e.nm es
  unfold entD DataW.del at h
  simp only [DataW.map.injEq] at h
  unfold putE entD DataW.put
  simp only [DataW.map.injEq]
  rw [h]
  exact entD_ins e _
theorem entD_has (n : List UInt8) (es : List Ent) : Maps.has (entD es) (.string n) = (getE n es).isSome := by
  unfold entD getE
  rw [has_eq, List.any_map, Bool.eq_iff_iff, List.any_eq_true, List.find?_isSome]
  exact Iff.rfl
theorem entD_at (n : List UInt8) (es : List Ent) (zd : DataW Value) : (entD es).atKey (.string n) zd = match getE n es with | some e => .held (entV e) | none => zd := by
  unfold entD getE DataW.atKey
  simp only [List.find?_map]
  have h : ((fun p : Lit × DataW Value => p.1.sameKey (.string n)) ∘ entKV) = fun e => e.nm == n := rfl
  rw [h]
  cases es.find? fun e => e.nm == n <;> rfl
theorem entD_size (es : List Ent) : Maps.size (entD es) = es.length := by unfold entD; rw [size_eq, List.length_map]
theorem entD_keys (es : List Ent) : strKeys (entD es) = es.map (·.nm) := by show (es.map entKV).map (fun p => strOf p.1) = _; rw [List.map_map]; rfl
theorem mem_insE {e x : Ent} : ∀ {es : List Ent}, x ∈ insE e es ↔ x = e ∨ x ∈ es
  | [] => by simp [insE]
  | y :: r => by
    unfold insE
    split
    · simp
    · simp only [List.mem_cons, mem_insE (es := r)]; constructor
      · rintro (h | h | h)
        · exact .inr (.inl h)
        · exact .inl h
        · exact .inr (.inr h)
      · rintro (h | h | h)
        · exact .inr (.inl h)
        · exact .inl h
        · exact .inr (.inr h)
theorem mem_delE {n : List UInt8} {x : Ent} {es : List Ent} : x ∈ delE n es ↔ x ∈ es ∧ x.nm ≠ n := by
  unfold delE; rw [List.mem_filter]; simp
theorem mem_putE {e x : Ent} {es : List Ent} : x ∈ putE e es ↔ x = e ∨ x ∈ es ∧ x.nm ≠ e.nm := by
  unfold putE; rw [mem_insE, mem_delE]
theorem getE_some {n : List UInt8} {es : List Ent} {e : Ent} (h : getE n es = some e) : e ∈ es ∧ e.nm = n := by
  unfold getE at h
  exact ⟨List.mem_of_find?_eq_some h, by simpa using List.find?_some h⟩
theorem getE_none {n : List UInt8} {es : List Ent} (h : getE n es = none) : ∀ e ∈ es, e.nm ≠ n := fun e he => by
  unfold getE at h
  simpa using (List.find?_eq_none.1 h) e he
theorem sorted_del {es : List Ent} (n : List UInt8) (h : SortedE es) : SortedE (delE n es) := h.filter _
theorem sorted_ins {e : Ent} : ∀ {es : List Ent}, SortedE es → (∀ x ∈ es, x.nm ≠ e.nm) → SortedE (insE e es)
  | [], _, _ => by simp [insE, SortedE]
  | y :: r, h, hne => by
    obtain ⟨h1, h2⟩ := List.pairwise_cons.1 h
    unfold insE
    split
    · rename_i hb
      refine List.pairwise_cons.2 ⟨fun q hq => ?_, h⟩
      rcases List.mem_cons.1 hq with rfl | hq
      · exact hb
      · exact WideShapes.bytes_trans _ _ _ hb (h1 q hq)
    · rename_i hb
      refine List.pairwise_cons.2 ⟨fun q hq => ?_, sorted_ins h2 fun x hx => hne x (List.mem_cons_of_mem _ hx)⟩
      rcases mem_insE.1 hq with rfl | hq
      · rcases WideAt.bytes_total q.nm y.nm (fun e => hne y (by simp) e.symm) with h' | h'
        · exact absurd h' hb
        · exact h'
      · exact h1 q hq
theorem sorted_put {e : Ent} {es : List Ent} (h : SortedE es) : SortedE (putE e es) :=
  sorted_ins (sorted_del _ h) fun x hx => (mem_delE.1 hx).2
theorem length_insE (e : Ent) : ∀ es : List Ent, (insE e es).length = es.length + 1
  | [] => rfl
  | y :: r => by
    unfold insE
    split
    · rfl
    · simp [length_insE e r]
theorem sorted_nodup {es : List Ent} (h : SortedE es) : es.Pairwise fun a b => a.nm ≠ b.nm :=
  h.imp fun {a b} hab e => by rw [e, WideAt.bytes_irrefl] at hab; cases hab
theorem length_delE_some {n : List UInt8} {es : List Ent} {e : Ent} (h : SortedE es) (hg : getE n es = some e) : (delE n es).length + 1 = es.length := by
  induction es with
  | nil => cases hg
  | cons y r ih =>
    obtain ⟨h1, h2⟩ := List.pairwise_cons.1 (sorted_nodup h)
    unfold getE at hg
    by_cases hy : y.nm = n
    · subst hy
      have : delE y.nm r = r := by
        unfold delE
        rw [List.filter_eq_self]
        intro a ha
        have := (h1 a ha).symm
        simpa using this
      unfold delE at this ⊢
      rw [List.filter_cons_of_neg (by simp), this, List.length_cons]
    · rw [List.find?_cons_of_neg (by simpa using hy)] at hg
      have := ih (List.pairwise_cons.1 h).2 hg
      unfold delE at this ⊢
      rw [List.filter_cons_of_pos (by simpa using hy), List.length_cons, List.length_cons, this]
theorem length_delE_none {n : List UInt8} {es : List Ent} (hg : getE n es = none) : (delE n es).length = es.length := by
  unfold delE
  rw [List.filter_eq_self.2 fun a ha => by simpa using getE_none hg a ha]
theorem length_putE_some {e x : Ent} {es : List Ent} (h : SortedE es) (hg : getE e.nm es = some x) : (putE e es).length = es.length := by
  unfold putE; rw [length_insE]; exact length_delE_some h hg
theorem length_putE_none {e : Ent} {es : List Ent} (hg : getE e.nm es = none) : (putE e es).length = es.length + 1 := by
  unfold putE; rw [length_insE, length_delE_none hg]
theorem before_lt : ∀ a b : List UInt8, bytesBefore a b = true ↔ a < b
  | [], [] => by simp [bytesBefore]
  | [], b :: s => by simp [bytesBefore]
  | a :: r, [] => by simp [bytesBefore]
  | a :: r, b :: s => by
    rw [List.cons_lt_cons_iff, ← before_lt r s]
    simp [bytesBefore]
theorem before_le {a b : List UInt8} (h : bytesBefore a b = true) : a ≤ b := List.le_of_lt ((before_lt a b).1 h)
/-- the names of a sorted list, sorted, are as they are -/
theorem names_sort {es : List Ent} (h : SortedE es) {ss : List (List UInt8)} (hp : ss.Perm (strKeys (entD es))) : ss.mergeSort (fun x y => decide (x ≤ y)) = es.map (·.nm) := by
  rw [entD_keys] at hp
  have h1 := mergeSort_of_perm hp
  show ss.mergeSort leB = _
  rw [h1]
  refine List.mergeSort_of_pairwise (le := leB) ?_
  exact List.pairwise_map.2 (h.imp fun {a b} hab => by simp only [leB, decide_eq_true_eq]; exact before_le hab)
end Go.Proofs.YtggcodobkmhkgaaDoor
namespace Go.Proofs.YtggcodobkmhkgaaDoor
set_option linter.unusedVariables false
set_option linter.unusedSimpArgs false
open Go.RowKit
set_option maxRecDepth 100000
/-- where the array of a slice lies, if it is old, it is that of the elder slice -/
def OwnOf (v v' : Value) (w : World) : Prop := v'.ownBlock = v.ownBlock ∨ ∃ k, v'.ownBlock = some k ∧ w.heap.size ≤ k
theorem owns_wide {w : World} {base n : Nat} {v : Value} {vs : List Value} (h : w.ownsRow base 5 1 v n vs) : ∃ a c, v = .slice a n c := by
  rcases h.2 with ⟨rfl, h0⟩ | ⟨g, c, _, rfl, _⟩
  · exact ⟨none, 0, by rw [h0]⟩
  · exact ⟨_, c, rfl⟩
/-- append of bytes to a slice of one's own -/
theorem run_append_bytes (w : World) (base : Nat) (v : Value) (n : Nat) (vs : List Value) (hown : w.ownsRow base 5 1 v n vs) (y : Value) (ys : List Int) (hy : BytesIn w y ys) (hl : n + ys.length ≤ 140737488355328) (hb : base ≤ w.heap.size) :
    ∃ v' w', (Builtin.append_ #[30, 30] 30 #[v, y]).run Tryd.prog w = .ok v' w' ∧ w'.ownsRow base 5 1 v' (n + ys.length) (vs ++ byteVals ys) ∧ w.grownBy w' v.ownBlock ∧ OwnOf v v' w := by
  obtain ⟨i0, hi, hz0, hz1, hz2⟩ := info_parts infoU8
  obtain ⟨a, c, rfl, hc, hm, hx⟩ := hy
  rcases a with _ | ad
  · have hn : ys = [] := by
      rcases hx with hx | ⟨_, _, h, _⟩
      · exact hx
      · cases h
    subst hn
    refine ⟨v, w, ?_, by simpa [byteVals] using hown, ⟨rfl, rfl, rfl, Nat.le_refl _, fun _ _ _ => rfl⟩, .inl rfl⟩
    rcases hown.2 with ⟨rfl, rfl⟩ | ⟨g, cap, cur, rfl, _, _, hnc, _⟩
    · simp [Builtin.append_, run_underlying Tryd.underlying30, sizeOf, typeInfo, hi, Builtin.lenOf, Builtin.firstCells]
    · simp [Builtin.append_, run_underlying Tryd.underlying30, sizeOf, typeInfo, hi, Builtin.lenOf, Builtin.firstCells, hnc, storeCells]
  · have hcells : ∀ j u, (byteVals ys)[j]? = some u → w.cell? (ad.add j) = some u := fun j u hu => by
      rcases hx with rfl | ⟨ab, ao, h, hx⟩
      · simp [byteVals] at hu
      · injection h with h; subst h
        rw [Addr.add_mid]
        simp only [byteVals, List.getElem?_map] at hu
        cases hj : ys[j]? with
        | none => rw [hj] at hu; cases hu
        | some x => rw [hj] at hu; cases hu; exact hx j x hj
    obtain ⟨v', w', hr, h1, h2, _, h4⟩ := run_append_own_at w base 30 30 5 i0 (.int .u8 0) 1 1 Tryd.underlying30 hi hz0 hz1 hz2 rfl (by decide) v n vs hown ad ys.length c (byteVals ys) (by rw [byteVals_length, Nat.mul_one]) hcells (byteVals_one ys) (by unfold maxLen; omega) (by omega) hb
    exact ⟨v', w', hr, h1, h2, h4.imp id fun h => ⟨_, h, Nat.le_refl _⟩⟩
theorem wpList_append_bytes {w : World} {ops : Array Oper} {rest : List Oper} {o : Oper} {a : Act} {Q : Exit → Act → World → Prop} (hgd : o.guard = none) (s x : Operand)
    (ho : o.op = .call { callee := .builtin .append, args := #[s, x], argTypes := #[30, 30] }) (hty : o.type = 30)
    (base : Nat) (v : Value) (n : Nat) (vs : List Value) (hs : a.eval s = v) (hown : w.ownsRow base 5 1 v n vs) (y : Value) (ys : List Int) (hx : a.eval x = y) (hy : BytesIn w y ys) (hl : n + ys.length ≤ 140737488355328) (hb : base ≤ w.heap.size)
    (h : ∀ v' w', w'.ownsRow base 5 1 v' (n + ys.length) (vs ++ byteVals ys) → w.grownBy w' v.ownBlock → OwnOf v v' w → wpList Tryd.prog ops Q rest (a.put o.dst v') w') : wpList Tryd.prog ops Q (o :: rest) a w := by
  refine wpList_plain hgd fun K hK => ?_
  obtain ⟨v', w', hr, h1, h2, h3⟩ := run_append_bytes w base v n vs hown y ys hy hl hb
  unfold Oper.wp execOp
  simp only [ho, hty, resolve, invoke, builtin, Sem.run_bind, Sem.run_pure, Result.andThen_ok, List.map_toArray, List.map_cons, List.map_nil, hs, hx, hr]
  exact hK _ _ (h v' w' h1 h2 h3)
theorem owns_in {w : World} {base : Nat} {v : Value} {xs : List Int} (h : w.ownsRow base 5 1 v xs.length (byteVals xs)) (hl : xs.length ≤ maxLen) : BytesIn w v xs := by
  rcases h.2 with ⟨rfl, h0⟩ | ⟨g, c, cur, rfl, hb, hg, hc, hm, hs, ht⟩
  · obtain rfl := List.eq_nil_of_length_eq_zero h0
    exact ⟨none, 0, rfl, Nat.le_refl _, hl, .inl rfl⟩
  · refine ⟨_, c, rfl, hc, hl, .inr ⟨g, 0, rfl, fun i x hi => ?_⟩⟩
    have := h.cells (g := g) rfl i (.int .u8 x) (by simp [byteVals, hi])
    rw [Addr.add_mid] at this
    exact this
theorem eqNil_some (ad : Addr) (n c : Nat) (w : World) : (binOp .eql 30 (.slice (some ad) n c) (.slice none 0 0)).run Tryd.prog w = .ok (.bool false) w := by kernel_rfl
theorem eqNil_none (n c : Nat) (w : World) : (binOp .eql 30 (.slice none n c) (.slice none 0 0)).run Tryd.prog w = .ok (.bool true) w := by kernel_rfl
set_option maxRecDepth 100000 in
set_option maxHeartbeats 400000 in
theorem clone_any (y : Value) (ys : List Int) (w : World) (hy : BytesIn w y ys) (hl : ys.length ≤ 140737488355328) :
    Calls Tryd.prog 53 #[y] w fun e w' => ∃ v', e = .returned v' ∧ w'.ownsRow w.heap.size 5 1 v' ys.length (byteVals ys) ∧ Below w.heap.size w w' := by
  have HY := Lib.hid hy
  have HL := Lib.hid hl
  obtain ⟨a, c, rfl, hc, hm, hx⟩ := hy
  clear hl
  cases a with
  | none =>
    have hn : ys = [] := by
      rcases hx with hx | ⟨_, _, h, _⟩
      · exact hx
      · cases h
    subst hn
    clear hc hm hx
    have h1 := eqNil_none 0 c
    go_enter Tryd.func53, Tryd.ntmps53
    go_wp2_with (fail)
    go_ret
    exact ⟨_, rfl, World.ownsRow_nil _ _ _ _, Below.refl _ _⟩
  | some ad =>
    clear hc hm hx
    have h1 := eqNil_some ad ys.length c
    go_enter Tryd.func53, Tryd.ntmps53
    have HO := Lib.hid (World.ownsRow_lit (w := w) (base := w.heap.size) (e := 5) (size := 1) #[] 0 (Nat.le_refl _) (by simp [maxLen]) rfl)
    have HB := Lib.hid (below_alloc w (.cells #[] 5))
    go_wp2_with (at_builtin; refine wpList_append_bytes rfl (.tmp 5) (.tmp 6) rfl rfl w.heap.size _ 0 [] rfl HO.out (.slice (some ad) ys.length c) ys rfl (HY.out.below HB.out) (by have := HL.out; omega) (by simp) ?_; intro v' w1 ho hg _; have H := Lib.hid ho; have HB1 := Lib.hid (HB.out.grown hg (by simp) (fun k hk => (HO.out.lt k hk).1)); clear ho hg)
    go_ret
    refine ⟨_, rfl, ?_, HB1.out⟩
    have := H.out
    rw [Nat.zero_add, List.nil_append] at this
    exact this
/-- an error, by its number -/
def errV : Option Nat → Value
  | none => .nilIface
  | some n => .iface 117 (.int .i64 n)
theorem nil_in (w : World) : BytesIn w (.slice none 0 0) [] := ⟨_, _, rfl, by simp, by simp [maxLen], .inl rfl⟩
end Go.Proofs.YtggcodobkmhkgaaDoor

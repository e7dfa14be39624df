/- FrameRows: what the walk needs. -/
import Derived.Test.YtfdjmfomccckaaaDoorRowMath
import Derived.Test.YtfdjmfomccckaaaDoorLists
import Derived.Test.YtfdjmfomccckaaaDoorSpoilt
namespace Go.Proofs.YtfdjmfomccckaaaDoor
open Go.RowKit
set_option maxRecDepth 100000
def intVals (l : List Int) : List Value := l.map (Value.int .i64)
theorem infoInt : (Tryd.prog.info? 3).map (fun i => (i.zero, i.size, i.bytes)) = some (some (.int .i64 0), 1, 8) := by kernel_rfl
/-- append of one number -/
theorem wpList_append_int {w : World} {ops : Array Oper} {rest : List Oper} {o : Oper} {a : Act} {Q : Exit → Act → World → Prop} (hgd : o.guard = none) (s x : Operand)
    (ho : o.op = .call { callee := .builtin .append, args := #[s, x], argTypes := #[46, 46] }) (hty : o.type = 46)
    (base : Nat) (v : Value) (l : List Int) (hs : a.eval s = v) (hown : w.ownsRow base 3 1 v l.length (intVals l)) (b : Addr) (z : Int) (hx : a.eval x = .slice (some b) 1 1) (hy : w.cell? b = some (.int .i64 z)) (hl : l.length < 1099511627776) (hb : base ≤ w.heap.size)
    (h : ∀ v' w', w'.ownsRow base 3 1 v' (l ++ [z]).length (intVals (l ++ [z])) → w.grownBy w' v.ownBlock → wpList Tryd.prog ops Q rest (a.put o.dst v') w') : wpList Tryd.prog ops Q (o :: rest) a w := by
  refine wpList_plain hgd fun K hK => ?_
  obtain ⟨i0, hi, hz0, hz1, hz2⟩ := info_parts infoInt
  obtain ⟨v', w', hr, h1, h2, _, _⟩ := run_append_own_at w base 46 46 3 i0 (.int .i64 0) 1 8 Tryd.underlying46 hi hz0 hz1 hz2 rfl (by decide) v l.length (intVals l) hown b 1 1 [.int .i64 z] rfl (fun j u hu => by
      match j, hu with
      | 0, hu => cases hu; rw [show b.add 0 = b by simp [Addr.add]]; exact hy) (fun u hu => by simp at hu; rw [hu]; rfl) (by unfold maxLen; omega) (by omega) hb
  unfold Oper.wp execOp
  simp only [ho, hty, resolve, invoke, builtin, Sem.run_bind, Sem.run_pure, Result.andThen_ok, List.map_toArray, List.map_cons, List.map_nil, hs, hx, hr]
  exact hK _ _ (h v' w' (by rw [List.length_append, intVals, List.map_append]; exact h1) h2)
/-- rows of two kinds lie in two blocks -/
theorem keep_other {w w' : World} {B B' n n' : Nat} {e e' : TypeId} {v v' : Value} {vs vs' : List Value} (h : w.ownsRow B e 1 v n vs) (h' : w.ownsRow B' e' 1 v' n' vs') (hne : e ≠ e') (hg : w.grownBy w' v'.ownBlock) : w'.ownsRow B e 1 v n vs := by
  refine h.kept (row := v'.ownBlock) hg ?_
  rcases h.2 with ⟨rfl, _⟩ | ⟨g, c, cur, rfl, _, hg1, _⟩
  · exact .inl rfl
  · right
    rcases h'.2 with ⟨rfl, _⟩ | ⟨g', c', cur', rfl, _, hg2, _⟩
    · intro e; cases e
    · intro e
      obtain rfl : g = g' := Option.some.inj e
      rw [hg1] at hg2
      injection hg2 with hg2
      injection hg2 with _ e1
      exact hne e1
theorem good_snoc (pss : List (List Int)) (k : Nat) (p : List Int) (h : pss[k]? = some p) : good (pss.take (k + 1)) = good (pss.take k) ++ (if okP p then [p] else []) := by
  unfold good
  rw [List.take_add_one, h, List.filter_append]
  congr 1
  by_cases ho : okP p = true
  · simp [ho]
  · simp [ho]
theorem good_mem {pss : List (List Int)} {k : Nat} (ho : ∀ p ∈ pss, bytesOk p) : ∀ p ∈ good (pss.take k), bytesOk p ∧ p.length ≠ 0 ∧ p.length ≤ 1048576 := fun p hp => by
  obtain ⟨h1, h2⟩ := List.mem_filter.1 hp
  exact ⟨ho p (List.mem_of_mem_take h1), (okP_iff p).1 h2⟩
theorem good_len (pss : List (List Int)) (k : Nat) : (good (pss.take k)).length ≤ k := Nat.le_trans (List.length_filter_le _ _) (by rw [List.length_take]; omega)
structure R1 (w : World) (G : List (List Int)) (va vw ve : Value) (vs : List Value) (wr : World) : Prop where
  all : wr.ownsRow w.heap.size 5 1 va (catR G).length (byteVals (catR G))
  want : wr.ownsRow w.heap.size 22 1 vw vs.length vs
  wl : vs.length = G.length ∧ ∀ (i : Nat) (u : Value) (p : List Int), vs[i]? = some u → G[i]? = some p → BytesIn w u p
  ends : wr.ownsRow w.heap.size 3 1 ve (endsF G).length (intVals (endsF G))
  below : Below w.heap.size w wr
def R1At (w : World) (G : List (List Int)) (va vw ve : Value) (wr : World) : Prop := ∃ vs, R1 w G va vw ve vs wr
theorem R1.nil (w : World) : R1At w [] (.slice none 0 0) (.slice none 0 0) (.slice none 0 0) w :=
  ⟨[], World.ownsRow_nil _ _ _ _, World.ownsRow_nil _ _ _ _, ⟨rfl, fun i u p h => by simp at h⟩, World.ownsRow_nil _ _ _ _, Below.refl _ _⟩
theorem R1At.later {w : World} {G : List (List Int)} {va vw ve : Value} {wr w' : World} (h : R1At w G va vw ve wr) (hb : Below wr.heap.size wr w') : R1At w G va vw ve w' := by
  obtain ⟨vs, h⟩ := h
  exact ⟨vs, kept_below h.all hb, kept_below h.want hb, h.wl, kept_below h.ends hb, h.below.trans (hb.mono h.below.size)⟩
theorem R1.three {w : World} {G : List (List Int)} {va vw ve : Value} {vs : List Value} {w2 w3 : World} {va' : Value} {p : List Int} (h : R1 w G va vw ve vs w2) (o3 : w3.ownsRow w.heap.size 5 1 va' ((catR G).length + (recF p).length) (byteVals (catR G) ++ byteVals (recF p))) (g3 : w2.grownBy w3 va.ownBlock) :
    w3.ownsRow w.heap.size 5 1 va' (catR (G ++ [p])).length (byteVals (catR (G ++ [p]))) ∧ w3.ownsRow w.heap.size 22 1 vw vs.length vs ∧ w3.ownsRow w.heap.size 3 1 ve (endsF G).length (intVals (endsF G)) ∧ Below w.heap.size w w3 ∧ w.heap.size ≤ w3.heap.size := by
  have e : catR (G ++ [p]) = catR G ++ recF p := by rw [catR_append]; simp [catR]
  have hb := h.below.grown g3 h.below.size (fun k hk => (h.all.lt k hk).1)
  refine ⟨?_, keep_other h.want h.all (by decide) g3, keep_other h.ends h.all (by decide) g3, hb, hb.size⟩
  rw [e, List.length_append, byteVals_append]; exact o3
theorem R1.four {w : World} {G : List (List Int)} {va' vw vw' ve : Value} {vs : List Value} {w3 w4 : World} {u : Value} {p : List Int} (o : Obj) (wl : vs.length = G.length ∧ ∀ (i : Nat) (u : Value) (p : List Int), vs[i]? = some u → G[i]? = some p → BytesIn w u p) (hu : BytesIn w u p)
    (h1 : w3.ownsRow w.heap.size 5 1 va' (catR (G ++ [p])).length (byteVals (catR (G ++ [p])))) (h2 : w3.ownsRow w.heap.size 22 1 vw vs.length vs) (h3 : w3.ownsRow w.heap.size 3 1 ve (endsF G).length (intVals (endsF G))) (hb : Below w.heap.size w w3)
    (o4 : w4.ownsRow w.heap.size 22 1 vw' (vs ++ [u]).length (vs ++ [u])) (g4 : (w3.alloc o).grownBy w4 vw.ownBlock) :
    w4.ownsRow w.heap.size 5 1 va' (catR (G ++ [p])).length (byteVals (catR (G ++ [p]))) ∧ w4.ownsRow w.heap.size 3 1 ve (endsF G).length (intVals (endsF G)) ∧ Below w.heap.size w w4 ∧ w.heap.size ≤ w4.heap.size ∧
      ((vs ++ [u]).length = (G ++ [p]).length ∧ ∀ (i : Nat) (v : Value) (q : List Int), (vs ++ [u])[i]? = some v → (G ++ [p])[i]? = some q → BytesIn w v q) := by
  have hb' : Below w.heap.size w w4 := (hb.alloc hb.size o).grown g4 (Nat.le_trans hb.size (by simp)) (fun k hk => (h2.lt k hk).1)
  refine ⟨keep_other (h1.alloc o) (h2.alloc o) (by decide) g4, keep_other (h3.alloc o) (h2.alloc o) (by decide) g4, hb', hb'.size, by simp [wl.1], fun i v q hv hq => ?_⟩
  rcases Nat.lt_or_ge i vs.length with hi | hi
  · rw [List.getElem?_append_left hi] at hv
    rw [List.getElem?_append_left (by rw [← wl.1]; exact hi)] at hq
    exact wl.2 i v q hv hq
  · rw [List.getElem?_append_right hi] at hv
    rw [List.getElem?_append_right (by rw [← wl.1]; exact hi), ← wl.1] at hq
    rcases Nat.eq_zero_or_pos (i - vs.length) with e | e
    · rw [e] at hv hq
      obtain rfl : u = v := by simpa using hv
      obtain rfl : p = q := by simpa using hq
      exact hu
    · rw [List.getElem?_eq_none (by simp; omega)] at hv; cases hv
theorem R1.five {w : World} {G : List (List Int)} {va' vw' ve ve' : Value} {vs : List Value} {w4 w5 : World} {p : List Int} (o : Obj)
    (h1 : w4.ownsRow w.heap.size 5 1 va' (catR (G ++ [p])).length (byteVals (catR (G ++ [p])))) (h2 : w4.ownsRow w.heap.size 22 1 vw' vs.length vs) (h3 : w4.ownsRow w.heap.size 3 1 ve (endsF G).length (intVals (endsF G))) (hb : Below w.heap.size w w4)
    (wl : vs.length = (G ++ [p]).length ∧ ∀ (i : Nat) (v : Value) (q : List Int), vs[i]? = some v → (G ++ [p])[i]? = some q → BytesIn w v q)
    (o5 : w5.ownsRow w.heap.size 3 1 ve' (endsF G ++ [(((catR (G ++ [p])).length : Nat) : Int)]).length (intVals (endsF G ++ [(((catR (G ++ [p])).length : Nat) : Int)]))) (g5 : (w4.alloc o).grownBy w5 ve.ownBlock) : R1At w (G ++ [p]) va' vw' ve' w5 := by
  have hb' : Below w.heap.size w w5 := (hb.alloc hb.size o).grown g5 (Nat.le_trans hb.size (by simp)) (fun k hk => (h3.lt k hk).1)
  exact ⟨vs, keep_other (h1.alloc o) (h3.alloc o) (by decide) g5, keep_other (h2.alloc o) (h3.alloc o) (by decide) g5, wl, by rw [endsF_snoc]; exact o5, hb'⟩
theorem sliceBsHi (a : Option Addr) (n cap q : Nat) (hq : q ≤ cap) (w : World) : (Instr.slice 34 (.slice a n cap) none (some (.int .i64 (q : Int))) none).run Tryd.prog w = .ok (.slice (cutA a cap 0) q cap) w := by
  have he : Tryd.prog.elem 34 = 22 := by kernel_rfl
  have hs : (sizeOf 22).run Tryd.prog w = .ok 1 w := by kernel_rfl
  rw [run_slice_h w 34 a n cap (by rw [he]; exact Tryd.underlying34) .i64 (q : Int) (by omega) (by omega), he, hs]
  simp [Result.andThen_ok, sliced, cutA]
/-- Scan of whole records -/
theorem rows_scan (y : Value) (G : List (List Int)) (w0 w : World) (hT : NibAt w) (hy : BytesIn w y (catR G)) (hG : ∀ p ∈ G, bytesOk p ∧ p.length ≠ 0 ∧ p.length ≤ 1048576) (hl : G.length ≤ 20) (hb : Below w0.heap.size w0 w) :
    Calls Tryd.prog 12 #[y] w fun e w' => ∃ v, e = .returned (.tuple #[v, .int .i64 (((catR G).length : Nat) : Int), .nilIface]) ∧ BssIn w' v G ∧ Below w0.heap.size w0 w' ∧ Below w.heap.size w w' := by
  have hc := catR_le G fun p hp => (hG p hp).2.2
  refine (scan_any y (catR G) w hT hy (catR_ok G fun p hp => (hG p hp).1) (by omega)).mono fun e w' h => ?_
  obtain ⟨v, vs, he, ho, hL, hb2⟩ := h
  rw [scanF_all G hG] at he hL
  exact ⟨v, he, lists_in ho ⟨hL.1, fun i u p hu hp => (hL.2 i u p hu hp).1⟩ (by unfold maxLen; omega), hb.trans (hb2.mono hb.size), hb2⟩
/-- Scan of records that are cut -/
theorem rows_scan_cut (y : Value) (G : List (List Int)) (k : Nat) (w0 w : World) (hT : NibAt w) (hy : BytesIn w y ((catR G).take k)) (hG : ∀ p ∈ G, bytesOk p ∧ p.length ≠ 0 ∧ p.length ≤ 1048576) (hl : G.length ≤ 20) (hk : k ≤ (catR G).length) (hb : Below w0.heap.size w0 w) :
    Calls Tryd.prog 12 #[y] w fun e w' => ∃ v, e = .returned (.tuple #[v, .int .i64 (((catR (G.take (cutJ G k))).length : Nat) : Int), errV (if (catR (G.take (cutJ G k))).length = k then none else some 12)]) ∧ BssIn w' v (G.take (cutJ G k)) ∧ Below w0.heap.size w0 w' ∧ Below w.heap.size w w' := by
  have hc := catR_le G fun p hp => (hG p hp).2.2
  refine (scan_any y ((catR G).take k) w hT hy ((catR_ok G fun p hp => (hG p hp).1).take k) (by rw [List.length_take]; omega)).mono fun e w' h => ?_
  obtain ⟨v, vs, he, ho, hL, hb2⟩ := h
  rw [scanF_cut G k hG hk] at he hL
  exact ⟨v, he, lists_in ho ⟨hL.1, fun i u p hu hp => (hL.2 i u p hu hp).1⟩ (by rw [List.length_take]; unfold maxLen; omega), hb.trans (hb2.mono hb.size), hb2⟩
theorem rows_lists (y z : Value) (ps : List (List Int)) (w0 w : World) (hy : BssIn w y ps) (hz : BssIn w z ps) (hl : ps.length ≤ 20) (hb : Below w0.heap.size w0 w) :
    Calls Tryd.prog 15 #[y, z] w fun e w' => e = .returned (.bool true) ∧ Below w0.heap.size w0 w' ∧ Below w.heap.size w w' :=
  (lists_same y z ps w hy hz (by omega)).mono fun _ _ h => ⟨h.1, hb.trans (h.2.mono hb.size), h.2⟩
theorem ends_cell {w : World} {B : Nat} {G : List (List Int)} {a : Option Addr} {c : Nat} (h : w.ownsRow B 3 1 (.slice a G.length c) G.length (intVals (endsF G))) (j : Nat) (hj : j < G.length) :
    ∃ g, a = some ⟨g, 0, none⟩ ∧ w.cell? ⟨g, j, none⟩ = some (.int .i64 (((catR (G.take (j + 1))).length : Nat) : Int)) := by
  rcases h.2 with ⟨e, h0⟩ | ⟨g, c', cur, e, hb, hg, hc, hm, hs, ht⟩
  · omega
  · injection e with e
    subst e
    refine ⟨g, rfl, ?_⟩
    have := h.cells (g := g) rfl j (.int .i64 (((catR (G.take (j + 1))).length : Nat) : Int)) (by simp [intVals, endsF_get G j hj])
    rw [Addr.add_mid, Nat.zero_add] at this
    exact this
theorem owns_cells {w : World} {B n : Nat} {e : TypeId} {v : Value} {vs : List Value} (h : w.ownsRow B e 1 v n vs) : ∃ a c, v = .slice a n c ∧ n ≤ c ∧ ∀ (j : Nat) (x : Value), vs[j]? = some x → j < n → ∃ g, a = some ⟨g, 0, none⟩ ∧ w.cell? ⟨g, j, none⟩ = some x := by
  rcases h.2 with ⟨rfl, h0⟩ | ⟨g, c, cur, rfl, hb, hg, hc, hm, hs, ht⟩
  · exact ⟨none, 0, by rw [h0], by omega, fun j x _ hj => by omega⟩
  · refine ⟨_, c, rfl, hc, fun j x hx _ => ⟨g, rfl, ?_⟩⟩
    have := h.cells (g := g) rfl j x hx
    rw [Addr.add_mid, Nat.zero_add] at this
    exact this
end Go.Proofs.YtfdjmfomccckaaaDoor

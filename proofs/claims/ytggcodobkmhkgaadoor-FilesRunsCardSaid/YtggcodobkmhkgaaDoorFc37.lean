/- Part 37 of the proof. -/
import Derived.Test.YtggcodobkmhkgaaDoorFc2
import Derived.Test.YtggcodobkmhkgaaDoorFc20
import Derived.Test.YtggcodobkmhkgaaDoorFc27
import Derived.Test.YtggcodobkmhkgaaDoorFc31
import Derived.Test.YtggcodobkmhkgaaDoorFc32
import Derived.Test.YtggcodobkmhkgaaDoorFc34
import Derived.Test.YtggcodobkmhkgaaDoorFc35
import Derived.Test.YtggcodobkmhkgaaDoorFc36
namespace Go.Proofs.YtggcodobkmhkgaaDoor
set_option linter.unusedVariables false
set_option linter.unusedSimpArgs false
open Go.RowKit
set_option maxRecDepth 100000
def intVals (l : List Int) : List Value := l.map (Value.int .i64)
theorem intVals_length (l : List Int) : (intVals l).length = l.length := by simp [intVals]
theorem intVals_append (a b : List Int) : intVals (a ++ b) = intVals a ++ intVals b := by simp [intVals]
theorem intVals_one (l : List Int) : ∀ v ∈ intVals l, v.oneCell' = true := by
  intro v hv
  simp only [intVals, List.mem_map] at hv
  obtain ⟨i, _, rfl⟩ := hv
  rfl
theorem infoInt : (Tryd.prog.info? 3).map (fun i => (i.zero, i.size, i.bytes)) = some (some (.int .i64 0), 1, 8) := by kernel_rfl
/-- v is a slice of the numbers l -/
def IntsIn (w : World) (v : Value) (l : List Int) : Prop :=
  ∃ a cap, v = .slice a l.length cap ∧ l.length ≤ cap ∧ l.length ≤ maxLen ∧ (l = [] ∨ ∃ ab ao, a = some ⟨ab, ao, none⟩ ∧ ∀ i x, l[i]? = some x → w.cell? ⟨ab, ao + i, none⟩ = some (.int .i64 x))
theorem IntsIn.below {w w' : World} {v : Value} {l : List Int} (h : IntsIn w v l) (hb : Below w.heap.size w w') : IntsIn w' v l := by
  obtain ⟨a, cap, rfl, hc, hm, hx⟩ := h
  refine ⟨a, cap, rfl, hc, hm, ?_⟩
  rcases hx with hx | ⟨ab, ao, rfl, hx⟩
  · exact .inl hx
  · exact .inr ⟨ab, ao, rfl, fun i y hi => (hb.cell (p := ⟨ab, ao + i, none⟩) (World.block_lt_of_cell? w _ (hx i y hi))).trans (hx i y hi)⟩
theorem owns_ints {w : World} {base : Nat} {v : Value} {l : List Int} (h : w.ownsRow base 3 1 v l.length (intVals l)) (hl : l.length ≤ maxLen) : IntsIn w v l := by
  rcases h.2 with ⟨rfl, h0⟩ | ⟨g, c, cur, rfl, hb, hg, hc, hm, hs, ht⟩
  · obtain rfl := List.eq_nil_of_length_eq_zero h0
    exact ⟨none, 0, rfl, Nat.le_refl _, hl, .inl rfl⟩
  · refine ⟨_, c, rfl, hc, hl, .inr ⟨g, 0, rfl, fun i x hi => ?_⟩⟩
    have := h.cells (g := g) rfl i (.int .i64 x) (by simp [intVals, hi])
    rw [Addr.add_mid] at this
    exact this
theorem ints_nil (w : World) : IntsIn w (.slice none 0 0) [] := ⟨_, _, rfl, by simp, by simp [maxLen], .inl rfl⟩
theorem lits_in (w : World) (l : List Int) (hl : l.length ≤ maxLen) : IntsIn (w.alloc (.cells (intVals l).toArray 3)) (.slice (some ⟨w.heap.size, 0, none⟩) l.length l.length) l := by
  refine ⟨_, _, rfl, Nat.le_refl _, hl, .inr ⟨_, _, rfl, fun i x hi => ?_⟩⟩
  rw [Nat.zero_add, cell_of_row _ _ _ _ _ _ (heap_alloc_new w _)]
  simp [intVals, hi]
theorem wpList_append_ints {w : World} {ops : Array Oper} {rest : List Oper} {o : Oper} {a : Act} {Q : Exit → Act → World → Prop} (hgd : o.guard = none) (s x : Operand)
    (ho : o.op = .call { callee := .builtin .append, args := #[s, x], argTypes := #[31, 31] }) (hty : o.type = 31)
    (base : Nat) (v : Value) (l : List Int) (hs : a.eval s = v) (hown : w.ownsRow base 3 1 v l.length (intVals l)) (y : Value) (m : List Int) (hx : a.eval x = y) (hy : IntsIn w y m) (hne : m ≠ []) (hl : l.length + m.length ≤ 17592186044416) (hb : base ≤ w.heap.size)
    (h : ∀ v' w', w'.ownsRow base 3 1 v' (l ++ m).length (intVals (l ++ m)) → w.grownBy w' v.ownBlock → wpList Tryd.prog ops Q rest (a.put o.dst v') w') : wpList Tryd.prog ops Q (o :: rest) a w := by
  refine wpList_plain hgd fun K hK => ?_
  obtain ⟨i0, hi, hz0, hz1, hz2⟩ := info_parts infoInt
  obtain ⟨ad, c, rfl, hc, hm, hxx⟩ := hy
  rcases hxx with rfl | ⟨ab, ao, rfl, hxx⟩
  · exact absurd rfl hne
  · have hcells : ∀ j u, (intVals m)[j]? = some u → w.cell? ((⟨ab, ao, none⟩ : Addr).add j) = some u := fun j u hu => by
      rw [Addr.add_mid]
      simp only [intVals, List.getElem?_map] at hu
      cases hj : m[j]? with
      | none => rw [hj] at hu; cases hu
      | some x => rw [hj] at hu; cases hu; exact hxx j x hj
    obtain ⟨v', w', hr, h1, h2, _, _⟩ := run_append_own_at w base 31 31 3 i0 (.int .i64 0) 1 8 Tryd.underlying31 hi hz0 hz1 hz2 rfl (by decide) v l.length (intVals l) hown ⟨ab, ao, none⟩ m.length c (intVals m) (by rw [intVals_length, Nat.mul_one]) hcells (intVals_one m) (by unfold maxLen; omega) (by omega) hb
    unfold Oper.wp execOp
    simp only [ho, hty, resolve, invoke, builtin, Sem.run_bind, Sem.run_pure, Result.andThen_ok, List.map_toArray, List.map_cons, List.map_nil, hs, hx, hr]
    exact hK _ _ (h v' w' (by rw [List.length_append, intVals_append]; exact h1) h2)
end Go.Proofs.YtggcodobkmhkgaaDoor
namespace Go.Proofs.YtggcodobkmhkgaaDoor
set_option linter.unusedVariables false
set_option linter.unusedSimpArgs false
open Go.RowKit Go.Maps Go.Proofs
set_option maxRecDepth 100000
/-- blocks that are neither a file's nor the file system's stay -/
def KeepT (w w' : World) : Prop := ∀ (b : Nat) (cs : Array Value) (T : TypeId), w.heap[b]? = some (.cells cs T (0, 0)) → T ≠ 98 → T ≠ 5 → w'.heap[b]? = some (.cells cs T (0, 0))
theorem KeepT.of_below {w w' : World} (h : Below w.heap.size w w') : KeepT w w' := fun b _ _ hb _ _ => (h.block b (Array.getElem?_eq_some_iff.1 hb).1).trans hb
theorem FsAt.typed {w : World} {R : FsR} (h : FsAt w R) {b : Nat} {cs : Array Value} {T : TypeId} (hb : w.heap[b]? = some (.cells cs T (0, 0))) (h1 : T ≠ 98) (h2 : T ≠ 5) : ∀ o, ¬ Reads R b o := by
  rintro o (rfl | rfl | ⟨e, he, hu⟩)
  · rw [h.own] at hb; injection hb with hb; injection hb with _ hb; exact h1 hb.symm
  · obtain ⟨es, cl, hm, _⟩ := h.map; rw [hm] at hb; cases hb
  · obtain ⟨cur, hc⟩ := (h.ents e he).1.isU8 _ _ hu
    rw [hc] at hb; injection hb with hb; injection hb with _ hb; exact h2 hb.symm
theorem StepTo.typed {R R' : FsR} {w w' : World} (h : FsAt w R) (s : StepTo R R' w w') : KeepT w w' := fun b _ _ hb h1 h2 =>
  (s.keep.block b (Array.getElem?_eq_some_iff.1 hb).1 fun o hf => h.typed hb h1 h2 o hf.reads).trans hb
theorem FilesIn.keepT {w w' : World} {v : Value} {L : List RF} (h : FilesIn w v L) (k : KeepT w w') : FilesIn w' v L := by
  obtain ⟨⟨h1, h2⟩, h3⟩ := h
  exact ⟨⟨h1, h2.imp id fun ⟨g, cap, cur, e, hb, hg, r⟩ => ⟨g, cap, cur, e, hb, k _ _ _ hg (by decide) (by decide), r⟩⟩, h3⟩
def zeroRS : Array Value := #[.slice none 0 0, .int .i64 0, .bool false, .int .i64 0, .bool false]
/-- the three boxes of step -/
structure Bx (w : World) (q : Nat) (C : Array Value) (t : AT) : Prop where
  rs : w.heap[q]? = some (.cells C 27 (0, 0))
  act : w.heap[q + 1]? = some (.cells t.cells.toArray 33 (0, 0))
  res : w.heap[q + 1 + 1]? = some (.cells zeroRS 27 (0, 0))
theorem Bx.keepT {w w' : World} {q : Nat} {C : Array Value} {t : AT} (h : Bx w q C t) (k : KeepT w w') : Bx w' q C t :=
  ⟨k _ _ _ h.rs (by decide) (by decide), k _ _ _ h.act (by decide) (by decide), k _ _ _ h.res (by decide) (by decide)⟩
theorem Bx.set {w : World} {q : Nat} {C : Array Value} {t : AT} (h : Bx w q C t) (C' : Array Value) : Bx (w.setRow q C') q C' t :=
  ⟨setRow_heap _ _ _ _ _ _ h.rs, (setRow_other _ _ _ _ (by omega)).trans h.act, (setRow_other _ _ _ _ (by omega)).trans h.res⟩
theorem Bx.facts {w : World} {q : Nat} {C : Array Value} {kd n : Int} {nm nw : ByteArray} {dv kv : Value} {xs ks : List Int} (h : Bx w q C ⟨kd, n, nm, nw, dv, xs, kv, ks⟩) :
    w.cell? ⟨q + 1, 0, none⟩ = some (.int .i64 kd) ∧ w.cell? ⟨q + 1, 1, none⟩ = some (.int .i64 n) ∧ w.cell? ⟨q + 1, 2, none⟩ = some (.string nm) ∧ w.cell? ⟨q + 1, 3, none⟩ = some (.string nw) ∧ w.cell? ⟨q + 1, 4, none⟩ = some dv ∧ w.cell? ⟨q + 1, 5, none⟩ = some kv :=
  ⟨cell_of_row w _ 0 _ _ _ h.act, cell_of_row w _ 1 _ _ _ h.act, cell_of_row w _ 2 _ _ _ h.act, cell_of_row w _ 3 _ _ _ h.act, cell_of_row w _ 4 _ _ _ h.act, cell_of_row w _ 5 _ _ _ h.act⟩
/-- while step goes on: the files, the boxes, the reference's files -/
structure StM (B : Nat) (w w' : World) (R R' : FsR) (q : Nat) (C : Array Value) (t : AT) (lv : Value) (L : List RF) : Prop where
  st : StepTo R R' w w'
  own : Own B w' R'
  bx : Bx w' q C t
  fl : FilesIn w' lv L
  lo : w.heap.size ≤ q
theorem StM.call {B : Nat} {w w' w2 : World} {R R' : FsR} {q : Nat} {C : Array Value} {t : AT} {lv : Value} {L : List RF} (m : StM B w w' R R' q C t lv L) (h : Below w'.heap.size w' w2) : StM B w w2 R R' q C t lv L :=
  ⟨m.st.trans (.of_below m.st.fs h), m.own.below h, m.bx.keepT (.of_below h), m.fl.below h, m.lo⟩
theorem StM.fs {B : Nat} {w w' w2 : World} {R R' R2 : FsR} {q : Nat} {C : Array Value} {t : AT} {lv : Value} {L : List RF} (m : StM B w w' R R' q C t lv L) (h : StepTo R' R2 w' w2) : StM B w w2 R R2 q C t lv L :=
  ⟨m.st.trans h, (m.own.step h).1, m.bx.keepT (h.typed m.st.fs), m.fl.keepT (h.typed m.st.fs), m.lo⟩
theorem StM.files {B : Nat} {w w' : World} {R R' : FsR} {q : Nat} {C : Array Value} {t : AT} {lv lv' : Value} {L L' : List RF} (m : StM B w w' R R' q C t lv L) (h : FilesIn w' lv' L') : StM B w w' R R' q C t lv' L' :=
  ⟨m.st, m.own, m.bx, h, m.lo⟩
theorem StM.set {B : Nat} {w w' : World} {R R' : FsR} {q : Nat} {C : Array Value} {t : AT} {lv : Value} {L : List RF} (m : StM B w w' R R' q C t lv L) (C' : Array Value) (hz : C'.size = C.size) : StM B w (w'.setRow q C') R R' q C' t lv L := by
  have hk : Keep (fun k _ => k = q) w' (w'.setRow q C') :=
    ⟨rfl, rfl, rfl, by simp [World.setRow], fun k hk hf => setRow_other _ _ _ _ (fun e => hf 0 e), fun k cur T hc => by
      by_cases e : k = q
      · subst e
        rw [m.bx.rs] at hc
        injection hc with hc
        injection hc with h1 h2
        subst h1 h2
        exact ⟨C', setRow_heap _ _ _ _ _ _ m.bx.rs, hz, fun o ho => absurd rfl ho⟩
      · exact ⟨cur, (setRow_other _ _ _ _ e).trans hc, rfl, fun _ _ => rfl⟩⟩
  have hf : FsAt (w'.setRow q C') R' := m.st.fs.keep hk fun k o e => by rw [e]; exact m.st.fs.typed m.bx.rs (by decide) (by decide) o
  refine ⟨⟨hf, m.st.keep.trans hk fun i o hi e => absurd m.lo (by rw [e] at hi; omega), m.st.pb, m.st.mb, m.st.foot, m.st.reads⟩, ⟨hf, m.own.reads, Nat.le_trans m.own.le hk.size⟩, m.bx.set C', ?_, m.lo⟩
  exact FilesIn.setRow m.fl m.bx.rs
end Go.Proofs.YtggcodobkmhkgaaDoor

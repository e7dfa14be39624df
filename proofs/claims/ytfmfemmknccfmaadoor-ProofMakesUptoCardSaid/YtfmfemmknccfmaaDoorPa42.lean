/- Part 42 of the proof. -/
import Derived.Test.YtfmfemmknccfmaaDoorPa41
namespace Go.Proofs.YtfmfemmknccfmaaDoor
set_option linter.unusedVariables false
set_option linter.unusedSimpArgs false
open Go.RowKit
set_option maxRecDepth 100000
set_option linter.unusedSimpArgs false
set_option linter.unusedVariables false
theorem results_tmp_cell_row {P : Program} {fn : Func} {p u : Tmp} {ty : TypeId} (h : fn.results = #[.tmp u, .cell p ty]) (tmps : Array Value) (w : World) (g : Nat) (t : TypeId) (cs : Array Value) (fr : Nat × Nat) (d : TypeDesc)
    (hp : tmps.getD p undef = .pointer (some ⟨g, 0, none⟩)) (hg : w.heap[g]? = some (.cells cs t fr))
    (hu : P.underlying ty = some d) (hd : (match d with | .struct _ | .array _ _ => true | _ => false) = true) (hi : (P.info? ty).map (·.size) = some cs.size) :
    (results fn tmps).run P w = .ok (.tuple #[tmps.getD u undef, .agg cs]) w := by
  have hp' : tmps[p]?.getD undef = .pointer (some ⟨g, 0, none⟩) := by simpa using hp
  simp [results, h, hp', asAddr, run_loadVar_row w g t ty cs fr d hg hu hd hi]
theorem avsmall_mod (n : Int) (m : Nat) (hm : 0 < m) (hm2 : m < 1000) : ∃ k : Nat, k < m ∧ wrap64 ((IntKind.u64.wrap n).tmod m) = (k : Int) := by
  have h0 : 0 ≤ IntKind.u64.wrap n := by
    unfold IntKind.wrap
    simp [IntKind.bits, IntKind.signed]
    omega
  have h1 : (IntKind.u64.wrap n).tmod m = IntKind.u64.wrap n % m := Int.tmod_eq_emod_of_nonneg h0
  have h2 := Int.emod_nonneg (IntKind.u64.wrap n) (show (m : Int) ≠ 0 by omega)
  have h3 := Int.emod_lt_of_pos (IntKind.u64.wrap n) (show (0 : Int) < m by omega)
  refine ⟨(IntKind.u64.wrap n % m).toNat, by omega, ?_⟩
  rw [h1, Int.toNat_of_nonneg h2]
  unfold wrap64; omega
theorem TreeAt.setRow {w : World} {g : Nat} {old new : Array Value} {T : TypeId} (hg : w.heap[g]? = some (.cells old T (0, 0))) (hs : old.size = 4) : ∀ {t : AvT} {p : Nat}, TreeAt w p t → TreeAt (w.setRow g new) p t := by
  intro t
  have key : ∀ {p : Nat} {cs : Array Value}, w.heap[p]? = some (.cells cs 94 (0, 0)) → cs.size = 38 → (w.setRow g new).heap[p]? = some (.cells cs 94 (0, 0)) := fun {p cs} h hz => by
    have hne : p ≠ g := fun e => by
      subst e
      rw [h] at hg; injection hg with hg; injection hg with hg _; subst hg; omega
    exact (setRow_other _ _ _ _ hne).trans h
  induction t with
  | leaf k v => intro p h; exact key h (tCells_size ..)
  | node a b iha ihb =>
    intro p h
    obtain ⟨ga, gb, hl, h, h1, h2⟩ := h
    exact ⟨ga, gb, hl, key h (tCells_size ..), iha h1, ihb h2⟩
theorem TreeO.setRow {w : World} {g : Nat} {old new : Array Value} {T : TypeId} (hg : w.heap[g]? = some (.cells old T (0, 0))) (hs : old.size = 4) {v : Value} {t : Option AvT} (h : TreeO w v t) : TreeO (w.setRow g new) v t := by
  cases t with
  | none => exact h
  | some t => obtain ⟨p, e, h⟩ := h; exact ⟨p, e, h.setRow hg hs⟩
/-- a tree as the law grows it -/
structure GT (N n : Nat) (t : Option AvT) : Prop where
  bal : balO t
  srt : Srt (pairsO t)
  many : manyO t ≤ n
  size : ∀ p ∈ pairsO t, p.1.size + p.2.size ≤ N
theorem GT.none (N : Nat) : GT N 0 .none := ⟨trivial, List.Pairwise.nil, Nat.le_refl _, fun p hp => by cases hp⟩
theorem GT.mono {N n m : Nat} {t : Option AvT} (h : GT N n t) (hm : n ≤ m) : GT N m t := ⟨h.bal, h.srt, Nat.le_trans h.many hm, h.size⟩
theorem GT.set {N n : Nat} {t : Option AvT} (h : GT N n t) (k v : ByteArray) (hs : k.size + v.size ≤ N) : GT N (n + 1) (some (setO t k v)) := by
  refine ⟨setO_bal h.bal k v, setO_srt h.srt k v, ?_, ?_⟩
  · have := h.many
    cases t with
    | none => show (1 : Nat) ≤ _; omega
    | some t => have h2 := set_many k v t; show (t.set k v).many ≤ _; simp only [manyO] at this; omega
  · intro p hp
    have hz := h.size
    cases t with
    | none =>
      have : p = (k, v) := by simpa [pairsO, setO, AvT.pairs] using hp
      subst this; exact hs
    | some t =>
      have hp' : p ∈ (t.set k v).pairs := hp
      rw [set_pairs k v t h.srt] at hp'
      unfold insL at hp'
      rcases List.mem_append.1 hp' with hp' | hp'
      · exact hz p (List.mem_filter.1 hp').1
      · rcases List.mem_cons.1 hp' with rfl | hp'
        · exact hs
        · exact hz p (List.mem_filter.1 hp').1
theorem GT.drop {N n : Nat} {t : Option AvT} (h : GT N n t) (k : ByteArray) : GT N n (dropO t k) := by
  refine ⟨dropO_bal h.bal k, dropO_srt h.srt k, ?_, ?_⟩
  · have := h.many
    cases t with
    | none => exact this
    | some t =>
      unfold dropO
      dsimp only
      split
      · exact Nat.le_trans (without_many k t) this
      · exact this
  · intro p hp
    rw [dropO_pairs h.srt] at hp
    exact h.size p (List.mem_filter.1 hp).1
/-- what lies in memory while the trees grow -/
structure GM (w w' : World) (v : Value) (cs : Array Value) (t r : Option AvT) : Prop where
  below : Below w.heap.size w w'
  tree : TreeO w' v t
  res : w'.heap[w.heap.size]? = some (.cells zR 29 (0, 0))
  blk : w'.heap[w.heap.size + 1]? = some (.cells cs 29 (0, 0))
  ro : RO w' cs r
theorem GM.call {w w' w2 : World} {v : Value} {cs : Array Value} {t r : Option AvT} (m : GM w w' v cs t r) (h : Below w'.heap.size w' w2) : GM w w2 v cs t r :=
  ⟨m.below.trans (h.mono m.below.size), m.tree.below h, (h.block _ (blk_lt m.res)).trans m.res, (h.block _ (blk_lt m.blk)).trans m.blk, m.ro.below h⟩
theorem GM.turn {w w' w2 : World} {v v2 : Value} {cs : Array Value} {t t2 r : Option AvT} (m : GM w w' v cs t r) (h : Below w'.heap.size w' w2) (ht : TreeO w2 v2 t2) : GM w w2 v2 cs t2 r :=
  ⟨m.below.trans (h.mono m.below.size), ht, (h.block _ (blk_lt m.res)).trans m.res, (h.block _ (blk_lt m.blk)).trans m.blk, m.ro.below h⟩
theorem GM.put {w w' : World} {v : Value} {cs new : Array Value} {t r r2 : Option AvT} (m : GM w w' v cs t r) (h : RO w' new r2) : GM w (w'.setRow (w.heap.size + 1) new) v new t r2 :=
  ⟨below_setRow m.below (by omega) _, m.tree.setRow m.blk m.ro.size, (setRow_other _ _ _ _ (by omega)).trans m.res, setRow_heap _ _ _ _ _ _ m.blk, h.setRow m.blk m.ro.size⟩
theorem gm_start (w : World) : GM w ((w.alloc (.cells zR 29)).alloc (.cells zR 29)) (.pointer none) zR none none := by
  refine ⟨(below_alloc w _).trans ((below_alloc _ _).mono (by simp)), rfl, ?_, ?_, rfl⟩
  · rw [heap_alloc_old _ _ (by simp), heap_alloc_new]
  · have := heap_alloc_new (w.alloc (.cells zR 29)) (.cells zR 29)
    rw [size_alloc] at this; exact this
theorem GM.done {N : Nat} {w w' : World} {v : Value} {cs : Array Value} {t : Option AvT} (m : GM w w' v cs t t) {n : Nat} (g : GT N n t) :
    TreeO (w'.setRow w.heap.size cs) v t ∧ RO (w'.setRow w.heap.size cs) cs t ∧ Below w.heap.size w (w'.setRow w.heap.size cs) ∧ (w'.setRow w.heap.size cs).heap[w.heap.size]? = some (.cells cs 29 (0, 0)) :=
  ⟨m.tree.setRow m.res rfl, m.ro.setRow m.res rfl, below_setRow m.below (Nat.le_refl _) _, setRow_heap _ _ _ _ _ _ m.res⟩
end Go.Proofs.YtfmfemmknccfmaaDoor

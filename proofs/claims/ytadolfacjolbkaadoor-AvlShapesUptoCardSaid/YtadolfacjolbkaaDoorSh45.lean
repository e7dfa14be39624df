/- Part 45 of the proof. -/
import Derived.Lib.SmallJoins
import Derived.Deep.Fields
import Derived.ChangeSame
import Derived.Test.YtadolfacjolbkaaDoorSh25
import Derived.Test.YtadolfacjolbkaaDoorSh44
namespace Go.Proofs.YtadolfacjolbkaaDoor
set_option linter.unusedVariables false
set_option linter.unusedSimpArgs false
open Go.RowKit
set_option maxRecDepth 100000
set_option linter.unusedSimpArgs false
set_option linter.unusedVariables false
theorem results_tmp_cell_row {P : Program} {fn : Func} {p u : Tmp} {ty : TypeId} (h : fn.results = #[.tmp u, .cell p ty]) (tmps : Array Value) (w : World) (g : Nat) (t : TypeId) (cs : Array Value) (fr : Nat × Nat) (d : TypeDesc)
    (hp : tmps.getD p undef = .pointer (some ⟨g, 0, none⟩)) (hg : w.heap[g]? = some (.cells cs t fr))
    (hu : P.underlying ty = some d) (hd : (match d with | .struct _ | .array _ _ => true | _ => false) = true) (hi : (P.info? ty).map (·.size) = some cs.size) :
    (results fn tmps).run P w = .ok (.tuple #[tmps.getD u undef, .agg cs]) w := by
  have hp' : tmps[p]?.getD undef = .pointer (some ⟨g, 0, none⟩) := by simpa using hp
  simp [results, h, hp', asAddr, run_loadVar_row w g t ty cs fr d hg hu hd hi]
theorem avsmall_mod (n : Int) (m : Nat) (hm : 0 < m) (hm2 : m < 1000) : ∃ k : Nat, k < m ∧ wrap64 ((IntKind.u64.wrap n).tmod m) = (k : Int) := by
  have h0 : 0 ≤ IntKind.u64.wrap n := by
    unfold IntKind.wrap
    simp [IntKind.bits, IntKind.signed]
    omega
  have h1 : (IntKind.u64.wrap n).tmod m = IntKind.u64.wrap n % m := Int.tmod_eq_emod_of_nonneg h0
  have h2 := Int.emod_nonneg (IntKind.u64.wrap n) (show (m : Int) ≠ 0 by omega)
  have h3 := Int.emod_lt_of_pos (IntKind.u64.wrap n) (show (0 : Int) < m by omega)
  refine ⟨(IntKind.u64.wrap n % m).toNat, by omega, ?_⟩
  rw [h1, Int.toNat_of_nonneg h2]
  unfold wrap64; omega
theorem TreeAt.setRow {w : World} {g : Nat} {old new : Array Value} {T : TypeId} (hg : w.heap[g]? = some (.cells old T (0, 0))) (hs : old.size = 4) : ∀ {t : AvT} {p : Nat}, TreeAt w p t → TreeAt (w.setRow g new) p t := by
  intro t
  have key : ∀ {p : Nat} {cs : Array Value}, w.heap[p]? = some (.cells cs 79 (0, 0)) → cs.size = 38 → (w.setRow g new).heap[p]? = some (.cells cs 79 (0, 0)) := fun {p cs} h hz => by
    have hne : p ≠ g := fun e => by
      subst e
      rw [h] at hg; injection hg with hg; injection hg with hg _; subst hg; omega
    exact (setRow_other _ _ _ _ hne).trans h
  induction t with
  | leaf k v => intro p h; exact key h (tCells_size ..)
  | node a b iha ihb =>
    intro p h
    obtain ⟨ga, gb, hl, h, h1, h2⟩ := h
    exact ⟨ga, gb, hl, key h (tCells_size ..), iha h1, ihb h2⟩
theorem TreeO.setRow {w : World} {g : Nat} {old new : Array Value} {T : TypeId} (hg : w.heap[g]? = some (.cells old T (0, 0))) (hs : old.size = 4) {v : Value} {t : Option AvT} (h : TreeO w v t) : TreeO (w.setRow g new) v t := by
  cases t with
  | none => exact h
  | some t => obtain ⟨p, e, h⟩ := h; exact ⟨p, e, h.setRow hg hs⟩
/-- a tree as the law grows it -/
structure GT (N n : Nat) (t : Option AvT) : Prop where
  bal : balO t
  srt : Srt (pairsO t)
  many : manyO t ≤ n
  size : ∀ p ∈ pairsO t, p.1.size + p.2.size ≤ N
theorem GT.none (N : Nat) : GT N 0 .none := ⟨trivial, List.Pairwise.nil, Nat.le_refl _, fun p hp => by cases hp⟩
theorem GT.mono {N n m : Nat} {t : Option AvT} (h : GT N n t) (hm : n ≤ m) : GT N m t := ⟨h.bal, h.srt, Nat.le_trans h.many hm, h.size⟩
theorem GT.set {N n : Nat} {t : Option AvT} (h : GT N n t) (k v : ByteArray) (hs : k.size + v.size ≤ N) : GT N (n + 1) (some (setO t k v)) := by
  refine ⟨setO_bal h.bal k v, setO_srt h.srt k v, ?_, ?_⟩
  · have := h.many
    cases t with
    | none => show (1 : Nat) ≤ _; omega
    | some t => have h2 := set_many k v t; show (t.set k v).many ≤ _; simp only [manyO] at this; omega
  · intro p hp
    have hz := h.size
    cases t with
    | none =>
      have : p = (k, v) := by simpa [pairsO, setO, AvT.pairs] using hp
      subst this; exact hs
    | some t =>
      have hp' : p ∈ (t.set k v).pairs := hp
      rw [set_pairs k v t h.srt] at hp'
      unfold insL at hp'
      rcases List.mem_append.1 hp' with hp' | hp'
      · exact hz p (List.mem_filter.1 hp').1
      · rcases List.mem_cons.1 hp' with rfl | hp'
        · exact hs
        · exact hz p (List.mem_filter.1 hp').1
theorem GT.drop {N n : Nat} {t : Option AvT} (h : GT N n t) (k : ByteArray) : GT N n (dropO t k) := by
  refine ⟨dropO_bal h.bal k, dropO_srt h.srt k, ?_, ?_⟩
  · have := h.many
    cases t with
    | none => exact this
    | some t =>
      unfold dropO
      dsimp only
      split
      · exact Nat.le_trans (without_many k t) this
      · exact this
  · intro p hp
    rw [dropO_pairs h.srt] at hp
    exact h.size p (List.mem_filter.1 hp).1
/-- what lies in memory while the trees grow -/
structure GM (w w' : World) (v : Value) (cs : Array Value) (t r : Option AvT) : Prop where
  below : Below w.heap.size w w'
  tree : TreeO w' v t
  res : w'.heap[w.heap.size]? = some (.cells zR 29 (0, 0))
  blk : w'.heap[w.heap.size + 1]? = some (.cells cs 29 (0, 0))
  ro : RO w' cs r
theorem GM.call {w w' w2 : World} {v : Value} {cs : Array Value} {t r : Option AvT} (m : GM w w' v cs t r) (h : Below w'.heap.size w' w2) : GM w w2 v cs t r :=
  ⟨m.below.trans (h.mono m.below.size), m.tree.below h, (h.block _ (blk_lt m.res)).trans m.res, (h.block _ (blk_lt m.blk)).trans m.blk, m.ro.below h⟩
theorem GM.turn {w w' w2 : World} {v v2 : Value} {cs : Array Value} {t t2 r : Option AvT} (m : GM w w' v cs t r) (h : Below w'.heap.size w' w2) (ht : TreeO w2 v2 t2) : GM w w2 v2 cs t2 r :=
  ⟨m.below.trans (h.mono m.below.size), ht, (h.block _ (blk_lt m.res)).trans m.res, (h.block _ (blk_lt m.blk)).trans m.blk, m.ro.below h⟩
theorem GM.put {w w' : World} {v : Value} {cs new : Array Value} {t r r2 : Option AvT} (m : GM w w' v cs t r) (h : RO w' new r2) : GM w (w'.setRow (w.heap.size + 1) new) v new t r2 :=
  ⟨below_setRow m.below (by omega) _, m.tree.setRow m.blk m.ro.size, (setRow_other _ _ _ _ (by omega)).trans m.res, setRow_heap _ _ _ _ _ _ m.blk, h.setRow m.blk m.ro.size⟩
theorem gm_start (w : World) : GM w ((w.alloc (.cells zR 29)).alloc (.cells zR 29)) (.pointer none) zR none none := by
  refine ⟨(below_alloc w _).trans ((below_alloc _ _).mono (by simp)), rfl, ?_, ?_, rfl⟩
  · rw [heap_alloc_old _ _ (by simp), heap_alloc_new]
  · have := heap_alloc_new (w.alloc (.cells zR 29)) (.cells zR 29)
    rw [size_alloc] at this; exact this
theorem GM.done {N : Nat} {w w' : World} {v : Value} {cs : Array Value} {t : Option AvT} (m : GM w w' v cs t t) {n : Nat} (g : GT N n t) :
    TreeO (w'.setRow w.heap.size cs) v t ∧ RO (w'.setRow w.heap.size cs) cs t ∧ Below w.heap.size w (w'.setRow w.heap.size cs) ∧ (w'.setRow w.heap.size cs).heap[w.heap.size]? = some (.cells cs 29 (0, 0)) :=
  ⟨m.tree.setRow m.res rfl, m.ro.setRow m.res rfl, below_setRow m.below (Nat.le_refl _) _, setRow_heap _ _ _ _ _ _ m.res⟩
end Go.Proofs.YtadolfacjolbkaaDoor
namespace Go.Proofs.YtadolfacjolbkaaDoor
set_option linter.unusedVariables false
set_option linter.unusedSimpArgs false
open Go.ChangeShapes Go.WideShapes Go.ChangeAt Go.RowKit Go.Proofs
set_option maxRecDepth 100000
set_option linter.unusedSimpArgs false
set_option linter.unusedVariables false
/-- an Act -/
structure AvA where
  kind : Int
  key : ByteArray
  val : ByteArray
instance : Inhabited AvA := ⟨⟨0, ⟨#[]⟩, ⟨#[]⟩⟩⟩
def AvA.cells (t : AvA) : List Value := [.int .i64 t.kind, .string t.key, .string t.val]
def AvA.kOk (t : AvA) : Prop := -9223372036854775808 ≤ t.kind ∧ t.kind ≤ 9223372036854775807
theorem avcellsI : Tryd.prog.cellsOf 3 = 1 := by kernel_rfl
theorem avcellsS : Tryd.prog.cellsOf 9 = 1 := by kernel_rfl
theorem avcellsA : Tryd.prog.cellsOf 73 = 3 := by kernel_rfl
theorem avone_of_take {α : Type} {l : List α} {k : Nat} {v : α} (h : (l.drop k).take 1 = [v]) : l[k]? = some v := by
  have h1 : ((l.drop k).take 1)[0]? = some v := by rw [h]; rfl
  rw [List.getElem?_take, if_pos (by omega), List.getElem?_drop, Nat.add_zero] at h1
  exact h1
theorem bulk_two {H : Type} {d e : DataW H} {i j : Nat} (hij : i < j) : ∀ {l : List (DataW H)}, l[i]? = some d → l[j]? = some e → ∀ k, i = k → Rows.uptoBulk d + Rows.uptoBulk e ≤ Rows.uptoBulkAll l := by
  induction i generalizing j with
  | zero =>
    intro l h1 h2 k _
    cases l with
    | nil => simp at h1
    | cons x r =>
      simp at h1
      subst h1
      obtain ⟨j', rfl⟩ : ∃ j', j = j' + 1 := ⟨j - 1, by omega⟩
      have := bulk_mem (List.mem_of_getElem? (by simpa using h2 : r[j']? = some e))
      simp only [Rows.uptoBulkAll]; omega
  | succ i ih =>
    intro l h1 h2 k _
    cases l with
    | nil => simp at h1
    | cons x r =>
      obtain ⟨j', rfl⟩ : ∃ j', j = j' + 1 := ⟨j - 1, by omega⟩
      have := ih (j := j') (by omega) (l := r) (by simpa using h1) (by simpa using h2) i rfl
      simp only [Rows.uptoBulkAll]; omega
theorem avact_raw {H : Type} {enc : TypeId × Value → H} {W : World} {fuel : Nat} {cs : List Value} {x : DataW H × List MemPlace} (h : DataW.trod enc Tryd.prog W 0 (fun _ => true) true fuel 73 cs = some x) :
    ∃ t : AvA, cs = t.cells ∧ t.kOk ∧ t.key.size + t.val.size ≤ Rows.uptoBulk x.1 := by
  obtain ⟨xs, m, _, rfl, hlen, hxl, hf⟩ := DataW.trod_struct Tryd.underlying73 h
  rw [avcellsA] at hlen
  simp only [List.size_toArray, List.length_cons, List.length_nil] at hxl
  have g : ∀ i, i < 3 → ∃ y, xs[i]? = some y := fun i hi => ⟨xs[i], List.getElem?_eq_getElem (by omega)⟩
  obtain ⟨y0, e0⟩ := g 0 (by omega)
  obtain ⟨y1, e1⟩ := g 1 (by omega)
  obtain ⟨y2, e2⟩ := g 2 (by omega)
  have f0 : DataW.trod enc Tryd.prog W 0 (fun _ => true) true m 3 ((cs.drop 0).take (Tryd.prog.cellsOf 3)) = xs[0]? := hf 0 _ rfl
  have f1 : DataW.trod enc Tryd.prog W 0 (fun _ => true) true m 9 ((cs.drop 1).take (Tryd.prog.cellsOf 9)) = xs[1]? := hf 1 _ rfl
  have f2 : DataW.trod enc Tryd.prog W 0 (fun _ => true) true m 9 ((cs.drop 2).take (Tryd.prog.cellsOf 9)) = xs[2]? := hf 2 _ rfl
  rw [e0, avcellsI] at f0
  rw [e1, avcellsS] at f1
  rw [e2, avcellsS] at f2
  obtain ⟨kd, hk, _, wk⟩ := DataW.trod_int Tryd.underlying3 f0
  obtain ⟨s1, h1, x1, _⟩ := DataW.trod_string Tryd.underlying9 f1
  obtain ⟨s2, h2, x2, _⟩ := DataW.trod_string Tryd.underlying9 f2
  have hk0 := avone_of_take hk
  have h10 := avone_of_take h1
  have h20 := avone_of_take h2
  refine ⟨⟨kd, s1, s2⟩, ?_, bounds_i64 wk, ?_⟩
  · apply List.ext_getElem?
    intro i
    rcases (by omega : i = 0 ∨ i = 1 ∨ i = 2 ∨ 3 ≤ i) with rfl | rfl | rfl | h3
    · rw [hk0]; rfl
    · rw [h10]; rfl
    · rw [h20]; rfl
    · rw [List.getElem?_eq_none (by omega), List.getElem?_eq_none (by simp [AvA.cells]; omega)]
  · have m1 : (xs.map (·.1))[1]? = some y1.1 := by rw [List.getElem?_map, e1]; rfl
    have m2 : (xs.map (·.1))[2]? = some y2.1 := by rw [List.getElem?_map, e2]; rfl
    have := bulk_two (by omega : 1 < 2) m1 m2 1 rfl
    rw [x1, x2] at this
    simp only [Rows.uptoBulk, Array.length_toList] at this ⊢
    show s1.data.size + s2.data.size ≤ _
    omega
def AvActs (W : World) (v : Value) (ts : List AvA) : Prop :=
  ∃ a cap, v = .slice a ts.length cap ∧ ts.length ≤ cap ∧ ts.length ≤ maxLen ∧ (ts = [] ∨ ∃ b off, a = some ⟨b, off, none⟩ ∧ b < W.heap.size ∧ ∀ i t, ts[i]? = some t → W.rangeAt b (off + i * 3) t.cells)
theorem AvActs.below {w w' : World} {v : Value} {ts : List AvA} (h : AvActs w v ts) (hb : Below w.heap.size w w') : AvActs w' v ts := by
  obtain ⟨a, cap, rfl, hc, hm, hx⟩ := h
  refine ⟨a, cap, rfl, hc, hm, hx.imp id ?_⟩
  rintro ⟨b, off, rfl, hlt, hx⟩
  exact ⟨b, off, rfl, Nat.lt_of_lt_of_le hlt hb.size, fun i t hi j v hv => (hb.cell (p := ⟨b, off + i * 3 + j, none⟩) hlt).trans (hx i t hi j v hv)⟩
theorem AvActs.len {w : World} {v : Value} {ts : List AvA} (h : AvActs w v ts) : ∃ a cap, v = .slice a ts.length cap := by
  obtain ⟨a, cap, e, _⟩ := h
  exact ⟨a, cap, e⟩
theorem AvActs.at {w : World} {a : Option Addr} {n cap : Nat} {ts : List AvA} (h : AvActs w (.slice a n cap) ts) (i : Nat) (t : AvA) (hi : ts[i]? = some t) :
    ∃ b off, a = some ⟨b, off, none⟩ ∧ b < w.heap.size ∧ w.cell? ⟨b, off + i * 3, none⟩ = some (.int .i64 t.kind) ∧ w.cell? ⟨b, off + i * 3 + 1, none⟩ = some (.string t.key) ∧ w.cell? ⟨b, off + i * 3 + 2, none⟩ = some (.string t.val) := by
  obtain ⟨a', cap', e, hc, hm, hx⟩ := h
  injection e with e1 e2 e3
  subst e1
  rcases hx with rfl | ⟨b, off, rfl, hlt, hx⟩
  · simp at hi
  · exact ⟨b, off, rfl, hlt, hx i t hi 0 _ rfl, hx i t hi 1 _ rfl, hx i t hi 2 _ rfl⟩
theorem acts7_arg {H : Type} {enc : TypeId × Value → H} {W : World} {a : Option Addr} {len cap : Nat} {d : DataW H} {p : List MemPlace} (h : DataW.Trod enc Tryd.prog W 0 (fun _ => true) true 22 (.slice a len cap) d p) :
    ∃ ts : List AvA, ts.length = len ∧ AvActs W (.slice a len cap) ts ∧ (∀ t ∈ ts, t.kOk) ∧ (∀ t ∈ ts, t.key.size + t.val.size ≤ Rows.uptoBulk d) := by
  obtain ⟨fuel, hf⟩ := h
  rcases Deep.open_slice Tryd.underlying22 hf with ⟨hcs, hx⟩ | ⟨x, l, c, m, n, D, Pl, hcs, _, hl, hm, hmm, hx, hel⟩
  · simp [Value.cells] at hcs
    obtain ⟨rfl, rfl, rfl⟩ := hcs
    exact ⟨[], rfl, ⟨_, _, rfl, by simp, by simp [maxLen], .inl rfl⟩, by simp, by simp⟩
  · simp [Value.cells] at hcs
    obtain ⟨rfl, rfl, rfl⟩ := hcs
    simp only [if_true] at hmm
    simp only [Prod.mk.injEq] at hx
    obtain ⟨rfl, _⟩ := hx
    have key : ∀ i, i < len → ∃ t : AvA, (∀ j v, t.cells[j]? = some v → W.cell? (x.add (i * 3 + j)) = some v) ∧ t.kOk ∧ t.key.size + t.val.size ≤ Rows.uptoBulk (D i) := by
      intro i hi
      obtain ⟨cs', h1, h2⟩ := hel i (by omega)
      rw [avcellsA] at h1
      obtain ⟨_, hlen, hcell⟩ := World.cells?_some h1
      obtain ⟨t, rfl, hok, hbulk⟩ := avact_raw h2
      refine ⟨t, fun j v hv => ?_, hok, hbulk⟩
      have hj : j < 3 := by have := (List.getElem?_eq_some_iff.1 hv).1; exact this
      rw [← hv, ← hcell j hj]
      by_cases hj0 : j = 0 <;> by_cases hi0 : i * 3 = 0 <;> simp [hj0, hi0, Addr.add, Nat.add_assoc]
    obtain ⟨F, hF⟩ := Deep.choose_lt key
    have hget : ∀ i t, ((List.range len).map F)[i]? = some t → i < len ∧ F i = t := fun i t hi => by
      have hil : i < len := by have := (List.getElem?_eq_some_iff.1 hi).1; simpa using this
      rw [List.getElem?_map, List.getElem?_range hil] at hi
      cases hi; exact ⟨hil, rfl⟩
    refine ⟨(List.range len).map F, by simp, ⟨some x, cap, by simp, by simp; omega, by simp; omega, ?_⟩, fun t ht => ?_, fun t ht => ?_⟩
    · by_cases hl0 : len = 0
      · left; subst hl0; rfl
      · right
        obtain ⟨b, off, spot⟩ := x
        have h0 := (hF 0 (by omega)).1 0 _ rfl
        have hspot : spot = none := by simpa [Addr.add] using World.cell?_spot h0
        subst hspot
        refine ⟨b, off, rfl, World.block_lt_of_cell? _ _ h0, fun i t hi => ?_⟩
        obtain ⟨hil, rfl⟩ := hget i t hi
        refine fun j v hv => ?_
        have := (hF i hil).1 j v hv
        rw [Addr.add_mid] at this
        rw [Nat.add_assoc]; exact this
    · obtain ⟨i, hi, rfl⟩ := List.mem_map.1 ht
      exact (hF i (List.mem_range.1 hi)).2.1
    · obtain ⟨i, hi, rfl⟩ := List.mem_map.1 ht
      have h1 := (hF i (List.mem_range.1 hi)).2.2
      have h2 := bulk_mem (d := D i) (l := (List.range len).map D) (List.mem_map.2 ⟨i, hi, rfl⟩)
      simp only [Rows.uptoBulk]
      omega
end Go.Proofs.YtadolfacjolbkaaDoor

/- Part 37 of the proof. -/
import Derived.Test.YtabflppnecemkaaGreatDoorPb17
import Derived.Test.YtabflppnecemkaaGreatDoorPb26
import Derived.Test.YtabflppnecemkaaGreatDoorPb36
namespace Go.Proofs.YtabflppnecemkaaGreatDoor
set_option linter.unusedVariables false
set_option linter.unusedSimpArgs false
open Go.RowKit
set_option maxRecDepth 100000
set_option linter.unusedSimpArgs false
set_option linter.unusedVariables false
/-- a slice of the reference's proofs of one's own -/
def OwnQ (w : World) (B : Nat) (v : Value) (ps : List PvP) : Prop := ∃ l : List PV, l.map (·.1) = ps ∧ w.ownsRow B 24 3 v l.length (flatPr l) ∧ ∀ t ∈ l, ∃ b, w.ownsRow b 74 34 t.2 t.1.steps.length (flatSt t.1.steps)
theorem OwnQ.nil (w : World) (B : Nat) : OwnQ w B (.slice none 0 0) [] := ⟨[], rfl, World.ownsRow_nil _ _ _ _, fun _ h => by cases h⟩
theorem OwnQ.stay {w w' : World} {B : Nat} {v : Value} {ps : List PvP} (h : OwnQ w B v ps) (hw : ∀ (k : Nat) (cs : Array Value) (ty : TypeId), w.heap[k]? = some (.cells cs ty (0, 0)) → (ty = 24 ∨ ty = 74) → w'.heap[k]? = w.heap[k]?) : OwnQ w' B v ps := by
  obtain ⟨l, h1, h2, h3⟩ := h
  refine ⟨l, h1, own_stay h2 fun k hk => ?_, fun t ht => ?_⟩
  · obtain ⟨cs, hc⟩ := own_type h2 hk; exact hw k cs _ hc (.inl rfl)
  · obtain ⟨b, hb⟩ := h3 t ht
    exact ⟨b, own_stay hb fun k hk => by obtain ⟨cs, hc⟩ := own_type hb hk; exact hw k cs _ hc (.inr rfl)⟩
theorem OwnQ.below {w w' : World} {B : Nat} {v : Value} {ps : List PvP} (h : OwnQ w B v ps) (hb : Below w.heap.size w w') : OwnQ w' B v ps :=
  h.stay fun k cs ty hk _ => hb.block k (Array.getElem?_eq_some_iff.1 hk).1
theorem OwnQ.only {w w' : World} {B q : Nat} {v : Value} {ps : List PvP} {cs0 : Array Value} {T : TypeId} (h : OwnQ w B v ps) (hq : w.heap[q]? = some (.cells cs0 T (0, 0))) (hT : ¬ (T = 24 ∨ T = 74)) (ho : Only q w w') : OwnQ w' B v ps :=
  h.stay fun k cs ty hk hty => ho.block k (Array.getElem?_eq_some_iff.1 hk).1 fun e => by
    subst e
    rw [hq] at hk
    injection hk with hk
    injection hk with _ hk _
    subst hk
    exact hT hty
theorem OwnQ.slice {w : World} {B : Nat} {v : Value} {ps : List PvP} (h : OwnQ w B v ps) : ∃ a c, v = .slice a ps.length c := by
  obtain ⟨l, h1, h2, _⟩ := h
  obtain ⟨a, c, e⟩ := own_slice h2
  exact ⟨a, c, by rw [e, ← h1, List.length_map]⟩
theorem OwnQ.prs {w : World} {B : Nat} {v : Value} {ps : List PvP} (h : OwnQ w B v ps) : PrsIn w v ps := by
  obtain ⟨l, h1, h2, h3⟩ := h
  rw [← h1]
  exact prs_of_own h2 fun t ht => by obtain ⟨b, hb⟩ := h3 t ht; exact StIn.of_own7 hb
theorem wp_append_ownQ {w : World} {o : Oper} {a : Act} {K : Act → World → Prop} {Q : Exit → Act → World → Prop} (s y : Operand)
    (ho : o.op = .call { callee := .builtin .append, args := #[s, y], argTypes := #[25, 25] }) (hty : o.type = 25)
    (B : Nat) (v : Value) (ps : List PvP) (hs : a.eval s = v) (hown : OwnQ w B v ps) (b : Nat) (p : PvP) (sv : Value) (hxs : ∃ a n c, sv = .slice a n c) (hy : a.eval y = .slice (some ⟨b, 0, none⟩) 1 1) (hyb : w.heap[b]? = some (.cells #[.string p.key, .string p.val, sv] 24 (0, 0)))
    (hst : ∃ bs, w.ownsRow bs 74 34 sv p.steps.length (flatSt p.steps)) (hl : (ps.length + 1) * 56 ≤ 140737488355328) (hb : B ≤ w.heap.size)
    (h : ∀ v' w', OwnQ w' B v' (ps ++ [p]) → w.grownBy w' v.ownBlock → K (a.put o.dst v') w') : o.wp Tryz.prog a w K Q := by
  obtain ⟨l, h1, h2, h3⟩ := hown
  have hlen : l.length = ps.length := by rw [← h1, List.length_map]
  refine wp_append_pr 25 24 Tryz.underlying25 infoPr8 s y ho hty B v l hs h2 b (p, sv) hxs hy hyb (by rw [hlen]; exact hl) hb fun v' w' k1 k2 => h v' w' ⟨l ++ [(p, sv)], by rw [List.map_append, h1]; rfl, k1, fun t ht => ?_⟩ k2
  rcases List.mem_append.1 ht with ht | ht
  · obtain ⟨bs, hbs⟩ := h3 t ht
    exact ⟨bs, own_two hbs h2 (by decide) k2⟩
  · rw [List.mem_singleton.1 ht]
    obtain ⟨bs, hbs⟩ := hst
    exact ⟨bs, own_two hbs h2 (by decide) k2⟩
structure DrM (w : World) (p4 p5 : Nat) (vl vr : Value) (L R : List PvP) (s : RSt) (wr : World) : Prop where
  below : Below w.heap.size w wr
  res : wr.heap[w.heap.size]? = some (.cells #[.slice none 0 0, .slice none 0 0] 27 (0, 0))
  at4 : wr.heap[p4]? = some (.cells #[vl, vr] 27 (0, 0))
  rd : ∃ ra rn rc, wr.heap[p5]? = some (.cells (rdC (.slice ra rn rc) (numE s.2)) 69 (0, 0)) ∧ BytesIn wr (.slice ra rn rc) s.1
  ok : okR s
  l : OwnQ wr w.heap.size vl L
  r : OwnQ wr w.heap.size vr R
  r4 : w.heap.size < p4
  p45 : p4 < p5
theorem DrM.call {w : World} {p4 p5 : Nat} {vl vr : Value} {L R : List PvP} {s : RSt} {wr wr' : World} (m : DrM w p4 p5 vl vr L R s wr) (hb : Below wr.heap.size wr wr') : DrM w p4 p5 vl vr L R s wr' := by
  obtain ⟨ra, rn, rc, h5, hin⟩ := m.rd
  exact ⟨m.below.trans (hb.mono m.below.size), (hb.block _ (bk_lt m.res)).trans m.res, (hb.block _ (bk_lt m.at4)).trans m.at4, ⟨ra, rn, rc, (hb.block _ (bk_lt h5)).trans h5, hin.below hb⟩, m.ok, m.l.below hb, m.r.below hb, m.r4, m.p45⟩
theorem DrM.read {w : World} {p4 p5 : Nat} {vl vr : Value} {L R : List PvP} {s s' : RSt} {wr : World} (m : DrM w p4 p5 vl vr L R s wr) {a : Option Addr} {n c : Nat} (hx : BytesIn wr (.slice a n c) s'.1) (hok : okR s') : DrM w p4 p5 vl vr L R s' (wr.setRow p5 (rdC (.slice a n c) (numE s'.2))) ∧ ∀ v ys, BytesIn wr v ys → BytesIn (wr.setRow p5 (rdC (.slice a n c) (numE s'.2))) v ys := by
  have h1 := m.r4; have h2 := m.p45
  obtain ⟨ra, rn, rc, h5, hin⟩ := m.rd
  have ho := Only.setRow wr p5 (rdC (.slice a n c) (numE s'.2))
  exact ⟨⟨below_setRow m.below (by omega) _, (setRow_other _ _ _ _ (by omega)).trans m.res, (setRow_other _ _ _ _ (by omega)).trans m.at4, ⟨a, n, c, setRow_heap _ _ _ _ _ _ h5, bytes_row hx h5 _⟩, hok, m.l.only h5 (by decide) ho, m.r.only h5 (by decide) ho, h1, h2⟩, fun v ys h => bytes_row h h5 _⟩
theorem DrM.set {w : World} {p4 p5 : Nat} {vl vr : Value} {L R : List PvP} {s : RSt} {wr : World} (m : DrM w p4 p5 vl vr L R s wr) (i : Nat) (v vl2 vr2 : Value) (L2 R2 : List PvP) (hi : i < 2) (h4 : (wr.setCell ⟨p4, i, none⟩ v).heap[p4]? = some (.cells #[vl2, vr2] 27 (0, 0))) (hl : OwnQ wr w.heap.size vl2 L2) (hr : OwnQ wr w.heap.size vr2 R2) : DrM w p4 p5 vl2 vr2 L2 R2 s (wr.setCell ⟨p4, i, none⟩ v) := by
  have h1 := m.r4; have h2 := m.p45
  have hO := Only.setCell wr ⟨p4, i, none⟩ v
  obtain ⟨ra, rn, rc, h5, hin⟩ := m.rd
  obtain ⟨la, lc, e1⟩ := m.l.slice
  obtain ⟨qa, qc, e2⟩ := m.r.slice
  refine ⟨m.below.trans (hO.below (by show _ ≤ p4; omega) m.below.size), (hO.block _ (bk_lt m.res) (by show _ ≠ p4; omega)).trans m.res, h4, ⟨ra, rn, rc, (hO.block _ (bk_lt h5) (by show _ ≠ p4; omega)).trans h5, ?_⟩, m.ok, hl.only m.at4 (by decide) hO, hr.only m.at4 (by decide) hO, h1, h2⟩
  rcases (by omega : i = 0 ∨ i = 1) with rfl | rfl
  · exact bytes_setCell3 hin (by rw [cell_of_row _ _ 0 _ _ _ m.at4]; rfl) (fun n => by rw [e1]; simp)
  · exact bytes_setCell3 hin (by rw [cell_of_row _ _ 1 _ _ _ m.at4]; rfl) (fun n => by rw [e2]; simp)
theorem DrM.set0 {w : World} {p4 p5 : Nat} {vl vr v : Value} {L R L2 : List PvP} {s : RSt} {wr : World} (m : DrM w p4 p5 vl vr L R s wr) (h : OwnQ wr w.heap.size v L2) : DrM w p4 p5 v vr L2 R s (wr.setCell ⟨p4, 0, none⟩ v) :=
  m.set 0 v v vr L2 R (by omega) (heap_setCell_same _ p4 0 _ _ v m.at4) h m.r
theorem DrM.set1 {w : World} {p4 p5 : Nat} {vl vr v : Value} {L R R2 : List PvP} {s : RSt} {wr : World} (m : DrM w p4 p5 vl vr L R s wr) (h : OwnQ wr w.heap.size v R2) : DrM w p4 p5 vl v L R2 s (wr.setCell ⟨p4, 1, none⟩ v) :=
  m.set 1 v vl v L R2 (by omega) (heap_setCell_same _ p4 1 _ _ v m.at4) m.l h
def DrRel (w : World) (p4 p5 : Nat) (xs : List Int) (k : Nat) (wr : World) : Prop :=
  ∃ vl vr, DrM w p4 p5 vl vr (dnA xs k) (dnB xs k) (dnZ xs k) wr ∧ (k = 0 → vl = .slice none 0 0) ∧ (k ≤ 1 → vr = .slice none 0 0) ∧ (0 < k → sdOk xs.length (xs, none) = true) ∧ (1 < k → sdOk xs.length (dnS1 xs) = true)
def DqPost (L R : List PvP) (E : Option Nat) (w : World) (e : Ending) (w' : World) : Prop :=
  ∃ la lc ra rc, e = .returned (.tuple #[.agg #[.slice la L.length lc, .slice ra R.length rc], .int .i64 (numE E)]) ∧ PrsIn w' (.slice la L.length lc) L ∧ PrsIn w' (.slice ra R.length rc) R ∧ Below w.heap.size w w'
theorem e8ab_zero_built : Tryz.prog.built 27 [] = some #[.slice none 0 0, .slice none 0 0] := by kernel_rfl
end Go.Proofs.YtabflppnecemkaaGreatDoor

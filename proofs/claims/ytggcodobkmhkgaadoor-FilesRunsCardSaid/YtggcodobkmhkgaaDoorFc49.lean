/- Part 49 of the proof. -/
import Derived.Maps.RangeWalk
import Derived.Test.YtggcodobkmhkgaaDoorFc30
namespace Go.Proofs.YtggcodobkmhkgaaDoor
set_option linter.unusedVariables false
set_option linter.unusedSimpArgs false
open Go.RowKit Go.Maps Go.Proofs
set_option maxRecDepth 100000
def clE (e : Ent) : Ent := ⟨e.nm, firstV e.v e.xs.length, e.xs, e.safe⟩
def doneE (es : List Ent) (left : Lit → Bool) : List Ent := (es.filter fun e => !left (.string e.nm)).map clE
theorem sameKey_str (a b : List UInt8) : (Lit.string a).sameKey (.string b) = (a == b) := rfl
theorem done_none {es : List Ent} {left : Lit → Bool} (h : ∀ e ∈ es, left (.string e.nm) = true) : doneE es left = [] := by
  unfold doneE
  rw [List.filter_eq_nil_iff.2 (fun e he => by rw [h e he]; simp)]; rfl
theorem done_all {es : List Ent} {left : Lit → Bool} (h : ∀ kl, left kl = false) : doneE es left = es.map clE := by
  unfold doneE
  rw [List.filter_eq_self.2 (fun e _ => by rw [h]; rfl)]
theorem done_put {left : Lit → Bool} {e : Ent} (hl : left (.string e.nm) = true) : ∀ {es : List Ent}, SortedE es → e ∈ es → putE (clE e) (doneE es left) = doneE es (fun z => left z && !z.sameKey (.string e.nm)) := by
  intro es hs hm
  have hdel : delE (clE e).nm (doneE es left) = doneE es left := by
    unfold delE
    refine List.filter_eq_self.2 fun x hx => ?_
    obtain ⟨y, hy, rfl⟩ := List.mem_map.1 hx
    have h1 := (List.mem_filter.1 hy).2
    have : ¬ y.nm = e.nm := fun h => by rw [h, hl] at h1; cases h1
    show (!(y.nm == e.nm)) = true
    simpa using this
  unfold putE
  rw [hdel]
  induction es with
  | nil => cases hm
  | cons y r ih =>
    obtain ⟨hy, hr⟩ := List.pairwise_cons.1 hs
    rcases List.mem_cons.1 hm with rfl | hm
    · have h1 : doneE (e :: r) left = doneE r left := by
        unfold doneE
        rw [List.filter_cons_of_neg (by rw [hl]; simp)]
      have h2 : doneE (e :: r) (fun z => left z && !z.sameKey (.string e.nm)) = clE e :: doneE r left := by
        unfold doneE
        rw [List.filter_cons_of_pos (by dsimp only; rw [sameKey_str]; simp), List.map_cons]
        congr 2
        refine List.filter_congr fun x hx => ?_
        have hne : (x.nm == e.nm) = false := by
          cases h : (x.nm == e.nm) with
          | false => rfl
          | true =>
            have := hy x hx
            rw [show x.nm = e.nm by simpa using h, bf_irrefl] at this; cases this
        dsimp only
        rw [sameKey_str, hne]; simp
      rw [h1, h2]
      have h3 : ∀ x ∈ doneE r left, bytesBefore (clE e).nm x.nm = true := fun x hx => by
        obtain ⟨z, hz, rfl⟩ := List.mem_map.1 hx
        exact hy z (List.mem_filter.1 hz).1
      generalize doneE r left = D at h3
      cases D with
      | nil => rfl
      | cons d D =>
        show (if bytesBefore (clE e).nm d.nm then _ else _) = _
        rw [if_pos (h3 d (.head _))]
    · have hye : bytesBefore y.nm e.nm = true := hy e hm
      have hne : (y.nm == e.nm) = false := by
        cases h : (y.nm == e.nm) with
        | false => rfl
        | true => rw [show y.nm = e.nm by simpa using h, bf_irrefl] at hye; cases hye
      have hdel' : delE (clE e).nm (doneE r left) = doneE r left := by
        unfold delE
        refine List.filter_eq_self.2 fun x hx => ?_
        obtain ⟨y, hy, rfl⟩ := List.mem_map.1 hx
        have h1 := (List.mem_filter.1 hy).2
        have : ¬ y.nm = e.nm := fun h => by rw [h, hl] at h1; cases h1
        show (!(y.nm == e.nm)) = true
        simpa using this
      have ih' := ih hr hm hdel'
      cases hly : left (.string y.nm) with
      | true =>
        have h1 : doneE (y :: r) left = doneE r left := by
          unfold doneE
          rw [List.filter_cons_of_neg (by rw [hly]; simp)]
        have h2 : doneE (y :: r) (fun z => left z && !z.sameKey (.string e.nm)) = doneE r (fun z => left z && !z.sameKey (.string e.nm)) := by
          unfold doneE
          rw [List.filter_cons_of_neg (by dsimp only; rw [hly, sameKey_str, hne]; simp)]
        rw [h1, h2, ih']
      | false =>
        have h1 : doneE (y :: r) left = clE y :: doneE r left := by
          unfold doneE
          rw [List.filter_cons_of_pos (by rw [hly]; rfl), List.map_cons]
        have h2 : doneE (y :: r) (fun z => left z && !z.sameKey (.string e.nm)) = clE y :: doneE r (fun z => left z && !z.sameKey (.string e.nm)) := by
          unfold doneE
          rw [List.filter_cons_of_pos (by dsimp only; rw [hly]; rfl), List.map_cons]
        rw [h1, h2, ← ih']
        show (if bytesBefore e.nm y.nm then _ else _) = _
        rw [if_neg]
        intro hc
        have := bf_trans hye hc
        rw [bf_irrefl] at this; cases this
theorem run_makeMap_hint {P : Program} (t : TypeId) (k e : TypeId) (ht : P.underlying t = some (.map k e)) (n : Int) (w : World) : (Instr.makeMap t (some (.int .i64 n))).run P w = .ok (.map (some w.heap.size)) (w.alloc (.map #[] 0)) := by
  have h := run_underlying (w := w) ht
  simp [Instr.makeMap, h, asInt]
  rfl
theorem held_inv {v : Value} {y : DataW Value × List MemPlace} (h : heldE v = some y) : y.1 = .held v := by
  unfold heldE at h; injection h with h; rw [← h]
/-- the entry that comes is one of the map -/
theorem entry_of {es : List Ent} {n : List UInt8} {v : Value} {y : DataW Value × List MemPlace} (hv : heldE v = some y) (hat : ∀ zd, (entD es).atKey (.string n) zd = y.1) : ∃ e, e ∈ es ∧ e.nm = n ∧ v = entV e := by
  have h1 := hat .nil
  rw [entD_at, held_inv hv] at h1
  cases hg : getE n es with
  | none => rw [hg] at h1; cases h1
  | some e =>
    rw [hg] at h1
    injection h1 with h1
    exact ⟨e, (getE_some hg).1, (getE_some hg).2, h1.symm⟩
/-- the file system that Clone is making: the entries that are done -/
def cloneR (q m : Nat) (R : FsR) (left : Lit → Bool) : FsR := ⟨q, m, doneE R.es left, R.steps, R.armed, R.left, R.down⟩
theorem Keep.grown {F : Nat → Nat → Prop} {w w' : World} {r : Nat} (h : w.grownBy w' (some r)) (hr : ∀ cur T, w.heap[r]? ≠ some (.cells cur T (0, 0))) (hF : ∀ o, F r o) : Keep F w w' :=
  ⟨h.os, h.tape, h.output, h.size, fun k hk hf => h.block k hk (fun e => by injection e with e; subst e; exact hf 0 (hF 0)), fun k cur T hc => by
    have hne : k ≠ r := fun e => by subst e; exact hr cur T hc
    exact ⟨cur, (h.block k (Array.getElem?_eq_some_iff.1 hc).1 (by simpa using hne)).trans hc, rfl, fun _ _ => rfl⟩⟩
theorem ranges_iter {P : Program} {k : TypeId} {R : Value → Option (DataW Value × List MemPlace)} {w : World} {b r n : Nat} {D : DataW Value} {left : Lit → Bool} {cnt : Nat} (h : w.ranges P k R b r n D left cnt) : ∃ s seen c, w.heap[r]? = some (.mapIter (some b) s seen c) := by
  obtain ⟨es, clock, since, seen, c0, _, _, _, _, hr, _⟩ := h
  exact ⟨_, _, _, hr⟩
theorem ranges_below {P : Program} {k : TypeId} {R : Value → Option (DataW Value × List MemPlace)} {w w' : World} {b r n : Nat} {D : DataW Value} {left : Lit → Bool} {cnt : Nat} (h : w.ranges P k R b r n D left cnt) (hb : Below w.heap.size w w') : w'.ranges P k R b r n D left cnt :=
  h.kept (row := none) ⟨hb.os, hb.tape, hb.output, hb.size, fun i hi _ => hb.block i hi⟩ (by simp) (by simp)
/-- an iterator's block is none that a file system reads -/
theorem FsAt.iter {w : World} {R : FsR} (h : FsAt w R) {r b : Nat} {s : Nat} {seen : Array Nat} {c : Nat} (hr : w.heap[r]? = some (.mapIter (some b) s seen c)) : ∀ o, ¬ Reads R r o := by
  rintro o (rfl | rfl | ⟨e, he, hu⟩)
  · rw [h.own] at hr; cases hr
  · obtain ⟨es, cl, hm, _⟩ := h.map; rw [hm] at hr; cases hr
  · obtain ⟨cur, hc⟩ := (h.ents e he).1.isU8 _ _ hu
    rw [hc] at hr; cases hr
theorem cl_ok {w : World} {e : Ent} (h : EntOk w e) : EntOk w (clE e) := by
  have h1 := first_view h.1 e.xs.length (Nat.le_refl _)
  rw [List.take_length] at h1
  exact ⟨h1, h.2⟩
theorem cl_apart (e : Ent) (x : Ent) : ApartE (clE e) (clE x) := fun _ _ => ⟨fun h => (first_spare h).elim, fun h => (first_spare h).elim⟩
theorem clone_abs {q m : Nat} {R : FsR} {left : Lit → Bool} (h : ∀ kl, left kl = false) : absR (cloneR q m R left) = absR R := by
  unfold absR cloneR
  dsimp only
  rw [done_all h, List.map_map]
  rfl
/-- what a clone reads and may turn of the memory that was there -/
theorem clone_reads {w : World} {R : FsR} (H : ∀ e ∈ R.es, ViewAt w e.v e.xs) {q m : Nat} {left : Lit → Bool} {k o : Nat} (h : Reads (cloneR q m R left) k o) : k = q ∨ k = m ∨ Reads R k o := by
  rcases h with h | h | ⟨e, he, hu⟩
  · exact .inl h
  · exact .inr (.inl h)
  · obtain ⟨x, hx, rfl⟩ := List.mem_map.1 he
    have hx' := (List.mem_filter.1 hx).1
    exact .inr (.inr (.inr (.inr ⟨x, hx', first_used (H x hx') (Nat.le_refl _) hu⟩)))
theorem clone_foot {R : FsR} {q m : Nat} {left : Lit → Bool} {k o : Nat} (h : Foot (cloneR q m R left) k o) : k = q ∨ k = m := by
  rcases h with h | h | ⟨e, he, hu⟩
  · exact .inl h
  · exact .inr h
  · obtain ⟨x, hx, rfl⟩ := List.mem_map.1 he
    exact (first_spare hu).elim
/-- one entry more -/
theorem clone_put {w : World} {R : FsR} {q m : Nat} {left : Lit → Bool} (h : FsAt w (cloneR q m R left)) (hR : FsAt w R) {e : Ent} (he : e ∈ R.es) (hl : left (.string e.nm) = true) :
    ∃ w', (Instr.mapUpdate 96 (.map (some m)) (.string ⟨e.nm.toArray⟩) (.agg #[firstV e.v e.xs.length, .int .i64 e.safe])).run Tryd.prog w = .ok () w' ∧ FsAt w' (cloneR q m R (fun z => left z && !z.sameKey (.string e.nm))) ∧ Keep (fun k _ => k = m) w w' := by
  have hok := hR.ents e he
  obtain ⟨w', h1, h2, h3⟩ := h.put ⟨e.nm.toArray⟩ (by have := (nmOk_len hok.2.2.2.1).2; unfold maxLen; show e.nm.length ≤ _; omega) (clE e) rfl (cl_ok hok)
    (fun x hx _ => by obtain ⟨y, _, rfl⟩ := List.mem_map.1 hx; exact cl_apart e y)
    (by show (putE (clE e) (doneE R.es left)).length ≤ 64; rw [done_put hl hR.sorted he]; unfold doneE; rw [List.length_map]; exact Nat.le_trans (List.length_filter_le _ _) hR.many)
  refine ⟨w', h1, ?_, h3⟩
  have : ({ cloneR q m R left with es := putE (clE e) (cloneR q m R left).es } : FsR) = cloneR q m R (fun z => left z && !z.sameKey (.string e.nm)) := by
    unfold cloneR; dsimp only; rw [done_put hl hR.sorted he]
  rw [this] at h2; exact h2
end Go.Proofs.YtggcodobkmhkgaaDoor

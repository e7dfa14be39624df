/- Part 8 of the proof. -/
import Derived.Test.YtilpohdidekenaaGreatDoorKl1
import Derived.Test.YtilpohdidekenaaGreatDoorKl6
import Derived.Test.YtilpohdidekenaaGreatDoorKl7
namespace Go.Proofs.YtilpohdidekenaaGreatDoor
set_option linter.unusedVariables false
set_option linter.unusedSimpArgs false
open Go.RowKit Go.Maps
set_option maxRecDepth 100000
def renEs (R : FsR) (old now : ByteArray) : List Ent := match getE old.data.toList R.es with | some e => putE ⟨now.data.toList, e.v, e.xs, e.safe⟩ (delE old.data.toList R.es) | none => R.es
def renE (R : FsR) (old now : ByteArray) : Option Nat := match checkE R.down [old, now] with | some n => some n | none => (findR R old).1
theorem names2 {w : World} {s t : ByteArray} {T : TypeId} : ∀ i u, [s, t][i]? = some u → ∃ g, some (⟨w.heap.size, 0, none⟩ : Addr) = some ⟨g, 0, none⟩ ∧ (w.alloc (.cells #[.string s, .string t] T)).cell? ⟨g, i, none⟩ = some (.string u) := by
  intro i u hi
  refine ⟨_, rfl, ?_⟩
  match i, hi with
  | 0, hi => cases hi; rw [cell_of_row _ _ 0 _ _ _ (heap_alloc_new w _)]; rfl
  | 1, hi => cases hi; rw [cell_of_row _ _ 1 _ _ _ (heap_alloc_new w _)]; rfl
end Go.Proofs.YtilpohdidekenaaGreatDoor
namespace Go.Proofs.YtilpohdidekenaaGreatDoor
set_option linter.unusedVariables false
set_option linter.unusedSimpArgs false
open Go.RowKit Go.Maps Go.Proofs
set_option maxRecDepth 100000
structure AF where
  nm : List UInt8
  xs : List Int
  safe : Nat
deriving DecidableEq
structure St where
  L : List AF
  steps : Nat
  armed : Bool
  left : Nat
  down : Bool
deriving DecidableEq
def absE (e : Ent) : AF := ⟨e.nm, e.xs, e.safe⟩
def absR (R : FsR) : St := ⟨R.es.map absE, R.steps, R.armed, R.left, R.down⟩
def aget (n : List UInt8) (L : List AF) : Option AF := L.find? fun f => f.nm == n
def adel (n : List UInt8) (L : List AF) : List AF := L.filter fun f => !(f.nm == n)
def ains (f : AF) : List AF → List AF
  | [] => [f]
  | y :: r => if bytesBefore f.nm y.nm then f :: y :: r else y :: ains f r
def aput (f : AF) (L : List AF) : List AF := ains f (adel f.nm L)
theorem abs_get (n : List UInt8) (es : List Ent) : aget n (es.map absE) = (getE n es).map absE := by
  unfold aget getE
  rw [List.find?_map]
  rfl
theorem abs_del (n : List UInt8) (es : List Ent) : (delE n es).map absE = adel n (es.map absE) := by
  unfold adel delE
  rw [List.filter_map]
  rfl
theorem abs_ins (e : Ent) : ∀ es : List Ent, (insE e es).map absE = ains (absE e) (es.map absE)
  | [] => rfl
  | y :: r => by
    unfold insE
    show _ = (if bytesBefore e.nm y.nm then _ else _)
    split
    · rfl
    · rw [List.map_cons, abs_ins e r]
theorem abs_put (e : Ent) (es : List Ent) : (putE e es).map absE = aput (absE e) (es.map absE) := by
  unfold putE aput
  rw [abs_ins, abs_del]
  rfl
def afXs : Option AF → List Int
  | some f => f.xs
  | none => []
def afSafe : Option AF → Nat
  | some f => f.safe
  | none => 0
theorem abs_xs (o : Option Ent) : afXs (o.map absE) = fileXs o := by cases o <;> rfl
theorem abs_safe (o : Option Ent) : afSafe (o.map absE) = fileSafe o := by cases o <;> rfl
def aFind (st : St) (s : ByteArray) : Option Nat × Option AF :=
  match checkE st.down [s] with
  | some n => (some n, none)
  | none => match aget s.data.toList st.L with | some f => (none, some f) | none => (some 8, none)
theorem abs_find (R : FsR) (s : ByteArray) : aFind (absR R) s = ((findR R s).1, (findR R s).2.map absE) := by
  unfold aFind findR
  show (match checkE R.down [s] with | some n => _ | none => _) = _
  cases checkE R.down [s] with
  | some n => rfl
  | none =>
    show (match aget s.data.toList (R.es.map absE) with | some f => _ | none => _) = _
    rw [abs_get]
    cases getE s.data.toList R.es <;> rfl
def aStepped (st : St) (L : List AF) : St := { st with L := L, steps := st.steps + 1, left := if st.armed then st.left - 1 else st.left }
def aStep (st : St) (L : List AF) : Option Nat × St := if st.armed = true ∧ st.left = 0 then (some 13, { st with down := true }) else (none, aStepped st L)
def aApE (st : St) (s : ByteArray) (m : Nat) : Option Nat :=
  match checkE st.down [s] with
  | some n => some n
  | none => if (aget s.data.toList st.L).isNone = true ∧ 64 ≤ st.L.length then some 10 else if 16777216 < (afXs (aget s.data.toList st.L)).length + m then some 2 else none
theorem abs_apE (R : FsR) (s : ByteArray) (m : Nat) : aApE (absR R) s m = apE R s m := by
  unfold aApE apE
  show (match checkE R.down [s] with | some n => _ | none => _) = _
  cases checkE R.down [s] with
  | some n => rfl
  | none =>
    show (if (aget s.data.toList (R.es.map absE)).isNone = true ∧ 64 ≤ (R.es.map absE).length then _ else if 16777216 < (afXs (aget s.data.toList (R.es.map absE))).length + m then _ else _) = _
    rw [abs_get, abs_xs, List.length_map]
    cases getE s.data.toList R.es <;> simp
def aAppend (st : St) (s : ByteArray) (ys : List Int) : Option Nat × St :=
  match aApE st s ys.length with
  | some n => (some n, st)
  | none =>
    let L := aput ⟨s.data.toList, afXs (aget s.data.toList st.L) ++ ys, afSafe (aget s.data.toList st.L)⟩ st.L
    if st.armed = true ∧ st.left = 0 then (some 13, { st with L := L, down := true }) else (none, aStepped st L)
def aSync (st : St) (s : ByteArray) : Option Nat × St :=
  match aFind st s with
  | (some n, _) => (some n, st)
  | (none, f) => aStep st (aput ⟨s.data.toList, afXs f, (afXs f).length⟩ st.L)
def aRemove (st : St) (s : ByteArray) : Option Nat × St :=
  match aFind st s with
  | (some n, _) => (some n, st)
  | (none, _) => aStep st (adel s.data.toList st.L)
def aCut (st : St) (s : ByteArray) (n : Int) : Option Nat × St :=
  match aFind st s with
  | (some k, _) => (some k, st)
  | (none, f) => if n < 0 ∨ ((afXs f).length : Int) < n then (some 1, st) else aStep st (aput ⟨s.data.toList, (afXs f).take n.toNat, n.toNat⟩ st.L)
def aRename (st : St) (s t : ByteArray) : Option Nat × St :=
  match checkE st.down [s, t] with
  | some n => (some n, st)
  | none => match aFind st s with
    | (some n, _) => (some n, st)
    | (none, f) => aStep st (aput ⟨t.data.toList, afXs f, afSafe f⟩ (adel s.data.toList st.L))
def aArm (st : St) (n : Int) : Option Nat × St := if n < 0 then (some 1, st) else if st.down then (some 13, st) else (none, { st with armed := true, left := n.toNat })
def aCutF (f : AF) (n : Nat) : AF := ⟨f.nm, f.xs.take n, n⟩
def aKept (f : AF) (k : Int) : Nat := f.safe + (min (max k 0) ((f.xs.length : Int) - f.safe)).toNat
def aStartL : List AF → List Int → List AF
  | [], _ => []
  | f :: r, ks => if f.xs.length = f.safe then f :: aStartL r ks else match ks with
    | [] => aCutF f f.safe :: aStartL r []
    | k :: t => aCutF f (aKept f k) :: aStartL r t
def aStart (st : St) (ks : List Int) : St := { st with L := aStartL st.L ks, armed := false, left := 0, down := false }
theorem abs_start : ∀ (es : List Ent) (ks : List Int), (startEs es ks).map absE = aStartL (es.map absE) ks
  | [], _ => rfl
  | e :: r, ks => by
    show (if e.xs.length = e.safe then _ else _ : List Ent).map absE = (if e.xs.length = e.safe then _ else _)
    split
    · rw [List.map_cons, abs_start r ks]
    · cases ks with
      | nil => show (cutEnt e e.safe :: startEs r []).map absE = _; rw [List.map_cons, abs_start r []]; rfl
      | cons k t => show (cutEnt e (keptN e k) :: startEs r t).map absE = _; rw [List.map_cons, abs_start r t]; rfl
/-- what a call that answers an error makes -/
def MethPost (R : FsR) (r : Option Nat × St) (w : World) (e : Ending) (w' : World) : Prop := e = .returned (errV r.1) ∧ ∃ R', StepTo R R' w w' ∧ absR R' = r.2
theorem meth_of_st {R : FsR} {er : Option Nat} {es : List Ent} {w w' : World} {e : Ending} (H : FsAt w R) (h : StPost R er es w e w') (r : Option Nat × St)
    (h1 : ∀ n, er = some n → r = (some n, absR R)) (h2 : er = none → r = aStep (absR R) (es.map absE)) : MethPost R r w e w' := by
  unfold StPost at h
  cases er with
  | some n => rw [h1 n rfl]; exact ⟨h.1, R, .of_below H h.2, rfl⟩
  | none =>
    rw [h2 rfl]
    refine ⟨?_, _, h.2, ?_⟩
    · rw [h.1]; unfold apErr aStep; show _ = Ending.returned (errV (if R.armed = true ∧ R.left = 0 then _ else _ : Option Nat × St).1); split <;> rfl
    · unfold stR aStep; show _ = (if R.armed = true ∧ R.left = 0 then _ else _ : Option Nat × St).2; split <;> rfl
theorem append_abs (R : FsR) (w : World) (H : FsAt w R) (s : ByteArray) (hs : s.size ≤ maxLen) (y : Value) (ys : List Int) (hy : BytesIn w y ys) (hyb : bytesOk ys) (hyl : ys.length ≤ 140737488355328) (hst : R.steps < 4611686018427387904) :
    Calls Tryz.prog 87 #[.pointer (some ⟨R.pb, 0, none⟩), .string s, y] w (MethPost R (aAppend (absR R) s ys) w) :=
  (append_any R w H s hs y ys hy hyb hyl hst).mono fun e w' h => by
    unfold AppendPost at h
    unfold aAppend
    rw [abs_apE]
    cases ha : apE R s ys.length with
    | some n => rw [ha] at h; exact ⟨h.1, R, .of_below H h.2, rfl⟩
    | none =>
      rw [ha] at h
      obtain ⟨he, v', hto⟩ := h
      have hL : (putE ⟨s.data.toList, v', fileXs (getE s.data.toList R.es) ++ ys, fileSafe (getE s.data.toList R.es)⟩ R.es).map absE = aput ⟨s.data.toList, afXs (aget s.data.toList (absR R).L) ++ ys, afSafe (aget s.data.toList (absR R).L)⟩ (absR R).L := by
        rw [abs_put]
        show aput ⟨_, _, _⟩ _ = _
        rw [show (absR R).L = R.es.map absE from rfl, abs_get, abs_xs, abs_safe]
      refine ⟨?_, _, hto, ?_⟩
      · rw [he]; unfold apErr; show _ = Ending.returned (errV (if R.armed = true ∧ R.left = 0 then _ else _ : Option Nat × St).1); split <;> rfl
      · show _ = (if R.armed = true ∧ R.left = 0 then _ else _ : Option Nat × St).2
        rw [← hL]
        unfold apR absR
        split <;> rfl
theorem sync_abs (R : FsR) (w : World) (H : FsAt w R) (s : ByteArray) (hs : s.size ≤ maxLen) (hst : R.steps < 4611686018427387904) :
    Calls Tryz.prog 88 #[.pointer (some ⟨R.pb, 0, none⟩), .string s] w (MethPost R (aSync (absR R) s) w) :=
  (sync_any R w H s hs hst).mono fun e w' h => by
    refine meth_of_st H h _ (fun n hn => ?_) fun hn => ?_
    · unfold aSync; rw [abs_find, hn]
    · unfold aSync; rw [abs_find, hn]
      obtain ⟨er, oe, hr⟩ : ∃ er oe, findR R s = (er, oe) := ⟨_, _, rfl⟩
      rw [hr] at hn ⊢
      cases oe with
      | none => obtain ⟨n, rfl⟩ := findR_none hr; cases hn
      | some en =>
        obtain ⟨_, hm⟩ := findR_mem hr
        show aStep _ (aput ⟨s.data.toList, en.xs, en.xs.length⟩ (R.es.map absE)) = _
        unfold syncEs
        rw [hm, abs_put]; rfl
theorem arm_abs (R : FsR) (w : World) (H : FsAt w R) (n : Int) (hn : n ≤ 9223372036854775807) : Calls Tryz.prog 20 #[.pointer (some ⟨R.pb, 0, none⟩), .int .i64 n] w (MethPost R (aArm (absR R) n) w) :=
  (arm_any R w H n hn).mono fun e w' h => by
    obtain ⟨he, hf, hk⟩ := h
    have hto : StepTo R (armR R n) w w' := by
      have h1 : (armR R n).pb = R.pb ∧ (armR R n).mb = R.mb ∧ (armR R n).es = R.es := by unfold armR; split; exact ⟨rfl, rfl, rfl⟩; split <;> exact ⟨rfl, rfl, rfl⟩
      refine ⟨hf, hk, h1.1, h1.2.1, fun k o _ h => ?_, fun k o _ h => ?_⟩
      · unfold Foot at h ⊢; rw [h1.1, h1.2.1, h1.2.2] at h; exact h
      · unfold Reads at h ⊢; rw [h1.1, h1.2.1, h1.2.2] at h; exact h
    refine ⟨?_, _, hto, ?_⟩
    · rw [he]; unfold armE aArm absR; split; rfl; split <;> rfl
    · unfold armR aArm absR; split; rfl; split <;> rfl
theorem start_abs (R : FsR) (w : World) (H : FsAt w R) (kv : Value) (ks : List Int) (hk : KeepIn R w kv ks) : Calls Tryz.prog 23 #[.pointer (some ⟨R.pb, 0, none⟩), kv] w fun e w' => e = .returned (.tuple #[]) ∧ ∃ R', StepTo R R' w w' ∧ absR R' = aStart (absR R) ks :=
  (start_any R w H kv ks hk).mono fun e w' h => ⟨h.1, _, h.2, by unfold startR aStart absR; simp only [abs_start]⟩
theorem cut_abs (R : FsR) (w : World) (H : FsAt w R) (s : ByteArray) (hs : s.size ≤ maxLen) (n : Int) (hst : R.steps < 4611686018427387904) :
    Calls Tryz.prog 81 #[.pointer (some ⟨R.pb, 0, none⟩), .string s, .int .i64 n] w (MethPost R (aCut (absR R) s n) w) :=
  (cut_any R w H s hs n hst).mono fun e w' h => by
    obtain ⟨er, oe, hr⟩ : ∃ er oe, findR R s = (er, oe) := ⟨_, _, rfl⟩
    cases er with
    | some j =>
      have hcE : cutE R s n = some j := by unfold cutE; rw [hr]
      have haC : aCut (absR R) s n = (some j, absR R) := by unfold aCut; rw [abs_find, hr]
      refine meth_of_st H h _ (fun k hk => ?_) fun hk => ?_
      · rw [hcE] at hk; injection hk with hk; rw [haC, hk]
      · rw [hcE] at hk; cases hk
    | none =>
      have hcE : cutE R s n = if n < 0 ∨ ((fileXs oe).length : Int) < n then some 1 else none := by unfold cutE; rw [hr]
      have haC : aCut (absR R) s n = if n < 0 ∨ ((fileXs oe).length : Int) < n then (some 1, absR R) else aStep (absR R) (aput ⟨s.data.toList, (fileXs oe).take n.toNat, n.toNat⟩ (absR R).L) := by
        unfold aCut; rw [abs_find, hr]; simp only [abs_xs]
      by_cases hc : n < 0 ∨ ((fileXs oe).length : Int) < n
      · rw [if_pos hc] at hcE haC
        refine meth_of_st H h _ (fun k hk => ?_) fun hk => ?_
        · rw [hcE] at hk; injection hk with hk; rw [haC, hk]
        · rw [hcE] at hk; cases hk
      · rw [if_neg hc] at hcE haC
        refine meth_of_st H h _ (fun k hk => ?_) fun hk => ?_
        · rw [hcE] at hk; cases hk
        · rw [haC]
          cases oe with
          | none => obtain ⟨n, h⟩ := findR_none hr; cases h
          | some en =>
            obtain ⟨_, hm⟩ := findR_mem hr
            unfold cutEs
            rw [hm, abs_put]; rfl
/-- a file system that a call has made: it lies from block B on -/
structure Own (B : Nat) (w : World) (R : FsR) : Prop where
  fs : FsAt w R
  reads : ∀ k o, Reads R k o → B ≤ k
  le : B ≤ w.heap.size
theorem Own.step {B : Nat} {w w' : World} {R R' : FsR} (h : Own B w R) (s : StepTo R R' w w') : Own B w' R' ∧ Below B w w' := by
  refine ⟨⟨s.fs, fun k o hr => ?_, Nat.le_trans h.le s.keep.size⟩, s.keep.below (fun i o hi hf => ?_) h.le⟩
  · rcases Nat.lt_or_ge k w.heap.size with hk | hk
    · exact h.reads k o (s.reads k o hk hr)
    · exact Nat.le_trans h.le hk
  · have := h.reads i o hf.reads; omega
theorem Own.below {B : Nat} {w w' : World} {R : FsR} (h : Own B w R) (hb : Below w.heap.size w w') : Own B w' R := ⟨h.fs.below hb, h.reads, Nat.le_trans h.le hb.size⟩
theorem Own.made {w w' : World} (hf : FsAt w' (freshR w)) (hb : Below w.heap.size w w') : Own w.heap.size w' (freshR w) :=
  ⟨hf, (fun k o hr => by
    rcases hr with h | h | ⟨e, he, _⟩
    · rw [h]; exact Nat.le_succ _
    · rw [h]; exact Nat.le_refl _
    · cases he), hb.size⟩
end Go.Proofs.YtilpohdidekenaaGreatDoor
namespace Go.Proofs.YtilpohdidekenaaGreatDoor
set_option linter.unusedVariables false
set_option linter.unusedSimpArgs false
open Go.RowKit Go.Maps Go.Proofs
set_option maxRecDepth 100000
def st0 : St := ⟨[], 0, false, 0, false⟩
theorem bytes_new (w : World) (xs : List Int) (fr : Nat × Nat) (hl : xs.length ≤ maxLen) : BytesIn (w.alloc (.cells (byteVals xs).toArray 5 fr)) (.slice (some ⟨w.heap.size, 0, none⟩) xs.length xs.length) xs := by
  refine ⟨_, _, rfl, Nat.le_refl _, hl, .inr ⟨_, _, rfl, fun i x hi => ?_⟩⟩
  rw [Nat.zero_add, cell_of_row _ _ _ _ _ _ (heap_alloc_new w _)]
  simp [byteVals, hi]
/-- the file system at block p, of a call's own from block B on, is st -/
def OwnP (B : Nat) (w : World) (p : Nat) (st : St) : Prop := ∃ R, Own B w R ∧ R.pb = p ∧ absR R = st
theorem OwnP.below {B p : Nat} {w w' : World} {st : St} (h : OwnP B w p st) (hb : Below w.heap.size w w') : OwnP B w' p st := by
  obtain ⟨R, h1, h2⟩ := h
  exact ⟨R, h1.below hb, h2⟩
theorem OwnP.le {B p : Nat} {w : World} {st : St} (h : OwnP B w p st) : B ≤ w.heap.size := by obtain ⟨R, h1, h2⟩ := h; exact h1.le
/-- v is a slice of the numbers ks -/
def NumsIn (B : Nat) (w : World) (v : Value) (ks : List Int) : Prop :=
  ∃ a cap, v = .slice a ks.length cap ∧ ks.length ≤ cap ∧ cap ≤ maxLen ∧ (ks = [] ∨ ∃ ab ao, a = some ⟨ab, ao, none⟩ ∧ (ab < B ∨ ∃ cs, w.heap[ab]? = some (.cells cs 3 (0, 0))) ∧ ∀ i k, ks[i]? = some k → w.cell? ⟨ab, ao + i, none⟩ = some (.int .i64 k))
theorem NumsIn.keep {B : Nat} {w : World} {v : Value} {ks : List Int} (h : NumsIn B w v ks) {R : FsR} (ho : Own B w R) : KeepIn R w v ks := by
  obtain ⟨a, cap, rfl, h1, h2, h3⟩ := h
  refine ⟨a, cap, rfl, h1, h2, ?_⟩
  by_cases he : ks = []
  · exact .inl he
  · right
    rcases h3 with h3 | ⟨ab, ao, rfl, hw, hc⟩
    · exact absurd h3 he
    · have hlt : ab < w.heap.size := by
        cases ks with
        | nil => exact absurd rfl he
        | cons k t => exact World.block_lt_of_cell? w _ (hc 0 k rfl)
      refine ⟨ab, ao, rfl, fun o hr => ?_, hlt, hc⟩
      rcases hw with hw | ⟨cs, hw⟩
      · have := ho.reads ab o hr; omega
      · rcases hr with rfl | rfl | ⟨e, he, hu⟩
        · rw [ho.fs.own] at hw; injection hw with hw; injection hw with _ hw; exact absurd hw (by decide)
        · obtain ⟨es, cl, hb, _⟩ := ho.fs.map; rw [hb] at hw; cases hw
        · obtain ⟨cur, hc'⟩ := (ho.fs.ents e he).1.isU8 _ _ hu
          rw [hc'] at hw; injection hw with hw; injection hw with _ hw; exact absurd hw (by decide)
theorem ints_new (B : Nat) (w : World) (ks : List Int) (hl : ks.length ≤ maxLen) : NumsIn B (w.alloc (.cells (ks.map (Value.int .i64)).toArray 3)) (.slice (some ⟨w.heap.size, 0, none⟩) ks.length ks.length) ks := by
  refine ⟨_, _, rfl, Nat.le_refl _, hl, .inr ⟨_, _, rfl, .inr ⟨_, heap_alloc_new w _⟩, fun i x hi => ?_⟩⟩
  rw [Nat.zero_add, cell_of_row _ _ _ _ _ _ (heap_alloc_new w _)]
  simp [hi]
def OwnPost (B p : Nat) (w : World) (e : Option Nat) (st' : St) (r : Ending) (w' : World) : Prop := r = .returned (errV e) ∧ OwnP B w' p st' ∧ Below B w w'
/-- a call on a file system of one's own that answers an error -/
theorem meth_own {B : Nat} {R : FsR} {w : World} {c : Nat} {args : Array Value} {r : Option Nat × St} (h : Own B w R) (hc : Calls Tryz.prog c args w (MethPost R r w)) : Calls Tryz.prog c args w (OwnPost B R.pb w r.1 r.2) :=
  hc.mono fun e w' ⟨he, R', hs, ha⟩ => ⟨he, ⟨R', (h.step hs).1, hs.pb, ha⟩, (h.step hs).2⟩
theorem append_own {B p : Nat} {w : World} {st : St} (h : OwnP B w p st) (s : ByteArray) (hs : s.size ≤ maxLen) (y : Value) (ys : List Int) (hy : BytesIn w y ys) (hyb : bytesOk ys) (hyl : ys.length ≤ 140737488355328) (hsp : st.steps < 4611686018427387904) :
    Calls Tryz.prog 87 #[.pointer (some ⟨p, 0, none⟩), .string s, y] w (OwnPost B p w (aAppend st s ys).1 (aAppend st s ys).2) := by
  obtain ⟨R, h, rfl, rfl⟩ := h
  exact meth_own h (append_abs R w h.fs s hs y ys hy hyb hyl hsp)
theorem sync_own {B p : Nat} {w : World} {st : St} (h : OwnP B w p st) (s : ByteArray) (hs : s.size ≤ maxLen) (hsp : st.steps < 4611686018427387904) :
    Calls Tryz.prog 88 #[.pointer (some ⟨p, 0, none⟩), .string s] w (OwnPost B p w (aSync st s).1 (aSync st s).2) := by
  obtain ⟨R, h, rfl, rfl⟩ := h
  exact meth_own h (sync_abs R w h.fs s hs hsp)
theorem arm_own {B p : Nat} {w : World} {st : St} (h : OwnP B w p st) (n : Int) (hn : n ≤ 9223372036854775807) :
    Calls Tryz.prog 20 #[.pointer (some ⟨p, 0, none⟩), .int .i64 n] w (OwnPost B p w (aArm st n).1 (aArm st n).2) := by
  obtain ⟨R, h, rfl, rfl⟩ := h
  exact meth_own h (arm_abs R w h.fs n hn)
theorem cut_own {B p : Nat} {w : World} {st : St} (h : OwnP B w p st) (s : ByteArray) (hs : s.size ≤ maxLen) (n : Int) (hsp : st.steps < 4611686018427387904) :
    Calls Tryz.prog 81 #[.pointer (some ⟨p, 0, none⟩), .string s, .int .i64 n] w (OwnPost B p w (aCut st s n).1 (aCut st s n).2) := by
  obtain ⟨R, h, rfl, rfl⟩ := h
  exact meth_own h (cut_abs R w h.fs s hs n hsp)
theorem start_own {B p : Nat} {w : World} {st : St} (h : OwnP B w p st) (kv : Value) (ks : List Int) (hk : NumsIn B w kv ks) :
    Calls Tryz.prog 23 #[.pointer (some ⟨p, 0, none⟩), kv] w fun r w' => r = .returned (.tuple #[]) ∧ OwnP B w' p (aStart st ks) ∧ Below B w w' := by
  obtain ⟨R, h, rfl, rfl⟩ := h
  exact (start_abs R w h.fs kv ks (hk.keep h)).mono fun e w' ⟨he, R', hs, ha⟩ => ⟨he, ⟨R', (h.step hs).1, hs.pb, ha⟩, (h.step hs).2⟩
theorem read_own {B p : Nat} {w : World} {st : St} (h : OwnP B w p st) (s : ByteArray) (hs : s.size ≤ maxLen) (e : Option Nat) (f : Option AF) (ha : aFind st s = (e, f)) :
    Calls Tryz.prog 76 #[.pointer (some ⟨p, 0, none⟩), .string s] w fun r w' => ∃ a c, r = .returned (.tuple #[.slice a (afXs f).length c, errV e]) ∧ w'.ownsRow w.heap.size 5 1 (.slice a (afXs f).length c) (afXs f).length (byteVals (afXs f)) ∧ Below w.heap.size w w' := by
  obtain ⟨R, h, rfl, rfl⟩ := h
  rw [abs_find] at ha
  injection ha with h1 h2
  refine (fread_any R w h.fs s hs).mono fun r w' ⟨v, he, ho, hb⟩ => ?_
  rw [h1] at he
  have hx : fileXs (findR R s).2 = afXs f := by rw [← h2, abs_xs]
  rw [hx] at ho
  obtain ⟨a, c, rfl⟩ : ∃ a c, v = .slice a (afXs f).length c := by
    rcases ho.2 with ⟨h, h0⟩ | ⟨g, cap, _, h, _⟩
    · exact ⟨_, _, by rw [h, h0]⟩
    · exact ⟨_, _, h⟩
  exact ⟨a, c, he, ho, hb⟩
theorem down_own {B p : Nat} {w : World} {st : St} (h : OwnP B w p st) : Calls Tryz.prog 22 #[.pointer (some ⟨p, 0, none⟩)] w fun e w' => e = .returned (.bool st.down) ∧ w = w' := by
  obtain ⟨R, h, rfl, rfl⟩ := h
  exact down_any R w h.fs
theorem list_own {B p : Nat} {w : World} {st : St} (h : OwnP B w p st) : Calls Tryz.prog 46 #[.pointer (some ⟨p, 0, none⟩)] w fun r w' => ∃ v, r = .returned v ∧ w'.ownsRow w.heap.size 9 1 v st.L.length (st.L.map fun f => encStr f.nm) ∧ Below w.heap.size w w' := by
  obtain ⟨R, h, rfl, rfl⟩ := h
  refine (list_any R w h.fs).mono fun r w' ⟨v, he, ho, hb⟩ => ⟨v, he, ?_, hb⟩
  have h1 : (absR R).L.length = R.es.length := by show (R.es.map absE).length = _; rw [List.length_map]
  have h2 : (absR R).L.map (fun f => encStr f.nm) = namesE R.es := by show (R.es.map absE).map _ = _; rw [List.map_map]; rfl
  rw [h1, h2]; exact ho
theorem new_own (w : World) : Calls Tryz.prog 17 #[] w fun r w' => ∃ p, r = .returned (.pointer (some ⟨p, 0, none⟩)) ∧ OwnP w.heap.size w' p st0 ∧ Below w.heap.size w w' :=
  (fnew_any w).mono fun e w' ⟨he, hf, hb⟩ => ⟨_, he, ⟨freshR w, .made hf hb, rfl, rfl⟩, hb⟩
end Go.Proofs.YtilpohdidekenaaGreatDoor
namespace Go.Proofs.YtilpohdidekenaaGreatDoor
set_option linter.unusedVariables false
set_option linter.unusedSimpArgs false
open Go.RowKit Go.Maps Go.Proofs
set_option maxRecDepth 100000
/-- blocks that are neither a file's nor the file system's stay -/
def KeepT (w w' : World) : Prop := ∀ (b : Nat) (cs : Array Value) (T : TypeId), w.heap[b]? = some (.cells cs T (0, 0)) → T ≠ 98 → T ≠ 5 → w'.heap[b]? = some (.cells cs T (0, 0))
theorem KeepT.refl (w : World) : KeepT w w := fun _ _ _ h _ _ => h
theorem KeepT.trans {a b c : World} (h : KeepT a b) (k : KeepT b c) : KeepT a c := fun g cs T hg h1 h2 => k g cs T (h g cs T hg h1 h2) h1 h2
theorem KeepT.of_below {w w' : World} (h : Below w.heap.size w w') : KeepT w w' := fun b _ _ hb _ _ => (h.block b (Array.getElem?_eq_some_iff.1 hb).1).trans hb
theorem FsAt.typed {w : World} {R : FsR} (h : FsAt w R) {b : Nat} {cs : Array Value} {T : TypeId} (hb : w.heap[b]? = some (.cells cs T (0, 0))) (h1 : T ≠ 98) (h2 : T ≠ 5) : ∀ o, ¬ Reads R b o := by
  rintro o (rfl | rfl | ⟨e, he, hu⟩)
  · rw [h.own] at hb; injection hb with hb; injection hb with _ hb; exact h1 hb.symm
  · obtain ⟨es, cl, hm, _⟩ := h.map; rw [hm] at hb; cases hb
  · obtain ⟨cur, hc⟩ := (h.ents e he).1.isU8 _ _ hu
    rw [hc] at hb; injection hb with hb; injection hb with _ hb; exact h2 hb.symm
theorem StepTo.typed {R R' : FsR} {w w' : World} (h : FsAt w R) (s : StepTo R R' w w') : KeepT w w' := fun b _ _ hb h1 h2 =>
  (s.keep.block b (Array.getElem?_eq_some_iff.1 hb).1 fun o hf => h.typed hb h1 h2 o hf.reads).trans hb
def OwnPostT (B p : Nat) (w : World) (e : Option Nat) (st' : St) (r : Ending) (w' : World) : Prop := r = .returned (errV e) ∧ OwnP B w' p st' ∧ Below B w w' ∧ KeepT w w'
theorem meth_ownT {B : Nat} {R : FsR} {w : World} {c : Nat} {args : Array Value} {r : Option Nat × St} (h : Own B w R) (hc : Calls Tryz.prog c args w (MethPost R r w)) : Calls Tryz.prog c args w (OwnPostT B R.pb w r.1 r.2) :=
  hc.mono fun e w' ⟨he, R', hs, ha⟩ => ⟨he, ⟨R', (h.step hs).1, hs.pb, ha⟩, (h.step hs).2, hs.typed h.fs⟩
theorem append_ownT {B p : Nat} {w : World} {st : St} (h : OwnP B w p st) (s : ByteArray) (hs : s.size ≤ maxLen) (y : Value) (ys : List Int) (hy : BytesIn w y ys) (hyb : bytesOk ys) (hyl : ys.length ≤ 140737488355328) (hsp : st.steps < 4611686018427387904) :
    Calls Tryz.prog 87 #[.pointer (some ⟨p, 0, none⟩), .string s, y] w (OwnPostT B p w (aAppend st s ys).1 (aAppend st s ys).2) := by
  obtain ⟨R, h, rfl, rfl⟩ := h
  exact meth_ownT h (append_abs R w h.fs s hs y ys hy hyb hyl hsp)
theorem sync_ownT {B p : Nat} {w : World} {st : St} (h : OwnP B w p st) (s : ByteArray) (hs : s.size ≤ maxLen) (hsp : st.steps < 4611686018427387904) :
    Calls Tryz.prog 88 #[.pointer (some ⟨p, 0, none⟩), .string s] w (OwnPostT B p w (aSync st s).1 (aSync st s).2) := by
  obtain ⟨R, h, rfl, rfl⟩ := h
  exact meth_ownT h (sync_abs R w h.fs s hs hsp)
theorem arm_ownT {B p : Nat} {w : World} {st : St} (h : OwnP B w p st) (n : Int) (hn : n ≤ 9223372036854775807) :
    Calls Tryz.prog 20 #[.pointer (some ⟨p, 0, none⟩), .int .i64 n] w (OwnPostT B p w (aArm st n).1 (aArm st n).2) := by
  obtain ⟨R, h, rfl, rfl⟩ := h
  exact meth_ownT h (arm_abs R w h.fs n hn)
theorem cut_ownT {B p : Nat} {w : World} {st : St} (h : OwnP B w p st) (s : ByteArray) (hs : s.size ≤ maxLen) (n : Int) (hsp : st.steps < 4611686018427387904) :
    Calls Tryz.prog 81 #[.pointer (some ⟨p, 0, none⟩), .string s, .int .i64 n] w (OwnPostT B p w (aCut st s n).1 (aCut st s n).2) := by
  obtain ⟨R, h, rfl, rfl⟩ := h
  exact meth_ownT h (cut_abs R w h.fs s hs n hsp)
theorem start_ownT {B p : Nat} {w : World} {st : St} (h : OwnP B w p st) (kv : Value) (ks : List Int) (hk : NumsIn B w kv ks) :
    Calls Tryz.prog 23 #[.pointer (some ⟨p, 0, none⟩), kv] w fun r w' => r = .returned (.tuple #[]) ∧ OwnP B w' p (aStart st ks) ∧ Below B w w' ∧ KeepT w w' := by
  obtain ⟨R, h, rfl, rfl⟩ := h
  exact (start_abs R w h.fs kv ks (hk.keep h)).mono fun e w' ⟨he, R', hs, ha⟩ => ⟨he, ⟨R', (h.step hs).1, hs.pb, ha⟩, (h.step hs).2, hs.typed h.fs⟩
/-- the cells of a Signer -/
def sgCells (p : Nat) (nm : ByteArray) (F : Nat → Int) (D k g u : Nat) (fail : Option Nat) : Array Value :=
  ([Value.pointer (some ⟨p, 0, none⟩), .string nm] ++ ((rowOf .u8 32 F).toList ++ [.int .i64 (D : Int), .slice (some ⟨g, 0, none⟩) (2 ^ k) (2 ^ k), .int .i64 (u : Int), errV fail])).toArray
theorem sg_size (p : Nat) (nm : ByteArray) (F : Nat → Int) (D k g u : Nat) (fail : Option Nat) : (sgCells p nm F D k g u fail).size = 38 := by
  have := rowOf_size .u8 32 F
  simp [sgCells, this]
theorem set_mid {α : Type} (a b c : List α) (x : α) (n i : Nat) (h : n = a.length + (b.length + i)) : (a ++ (b ++ c)).set n x = a ++ (b ++ c.set i x) := by
  subst h
  rw [List.set_append_right _ _ (by omega), List.set_append_right _ _ (by omega), show a.length + (b.length + i) - a.length - b.length = i by omega]
theorem get_mid {α : Type} (a b c : List α) (n i : Nat) (h : n = a.length + (b.length + i)) : (a ++ (b ++ c))[n]? = c[i]? := by
  subst h
  rw [List.getElem?_append_right (by omega), List.getElem?_append_right (by omega), show a.length + (b.length + i) - a.length - b.length = i by omega]
theorem row32L (F : Nat → Int) : (rowOf .u8 32 F).toList.length = 32 := by rw [Array.length_toList, rowOf_size]
theorem sg_hi (p : Nat) (nm : ByteArray) (F : Nat → Int) (D k g u : Nat) (fail : Option Nat) (i : Nat) : (sgCells p nm F D k g u fail)[34 + i]? = [Value.int .i64 (D : Int), .slice (some ⟨g, 0, none⟩) (2 ^ k) (2 ^ k), .int .i64 (u : Int), errV fail][i]? := by
  unfold sgCells
  rw [List.getElem?_toArray, get_mid _ _ _ _ i (by rw [row32L]; simp only [List.length_cons, List.length_nil]; omega)]
theorem sg_seed (p : Nat) (nm : ByteArray) (F : Nat → Int) (D k g u : Nat) (fail : Option Nat) (j : Nat) (hj : j < 32) : (sgCells p nm F D k g u fail)[2 + j]? = some (.int .u8 (F j)) := by
  have hl := row32L F
  unfold sgCells
  rw [List.getElem?_toArray, List.getElem?_append_right (by simp only [List.length_cons, List.length_nil]; omega), List.getElem?_append_left (by simp only [List.length_cons, List.length_nil]; rw [hl]; omega), Array.getElem?_toList, show 2 + j - [Value.pointer (some ⟨p, 0, none⟩), .string nm].length = j by simp only [List.length_cons, List.length_nil]; omega, rowOf_get _ _ _ _ hj]
theorem sg_used (p : Nat) (nm : ByteArray) (F : Nat → Int) (D k g u u' : Nat) (fail : Option Nat) : (sgCells p nm F D k g u fail).setIfInBounds 36 (.int .i64 (u' : Int)) = sgCells p nm F D k g u' fail := by
  unfold sgCells
  rw [List.setIfInBounds_toArray, set_mid _ _ _ _ _ 2 (by rw [row32L]; rfl)]
  rfl
theorem sg_fail (p : Nat) (nm : ByteArray) (F : Nat → Int) (D k g u : Nat) (fail fail' : Option Nat) : (sgCells p nm F D k g u fail).setIfInBounds 37 (errV fail') = sgCells p nm F D k g u fail' := by
  unfold sgCells
  rw [List.setIfInBounds_toArray, set_mid _ _ _ _ _ 3 (by rw [row32L]; rfl)]
  rfl
end Go.Proofs.YtilpohdidekenaaGreatDoor
namespace Go.Proofs.YtilpohdidekenaaGreatDoor
set_option linter.unusedVariables false
set_option linter.unusedSimpArgs false
/-- how many groups -/
def glen (n : Nat) : Nat := if h : n < 128 then 1 else glen (n / 128) + 1
termination_by n
decreasing_by omega
theorem glen_small {n : Nat} (h : n < 128) : glen n = 1 := by rw [glen, dif_pos h]
theorem glen_big {n : Nat} (h : ¬ n < 128) : glen n = glen (n / 128) + 1 := by rw [glen, dif_neg h]
theorem glen_pos (n : Nat) : 0 < glen n := by
  by_cases h : n < 128
  · rw [glen_small h]; decide
  · rw [glen_big h]; omega
theorem div_pow_succ (n i : Nat) : n / 128 ^ (i + 1) = n / 128 / 128 ^ i := by rw [Nat.pow_succ, Nat.mul_comm, ← Nat.div_div_eq_div_mul]
theorem div_pow_step (n i : Nat) : n / 128 ^ (i + 1) = n / 128 ^ i / 128 := by rw [Nat.pow_succ, ← Nat.div_div_eq_div_mul]
theorem glen_lo : ∀ (n i : Nat), i + 1 < glen n → 128 ≤ n / 128 ^ i := by
  intro n
  induction n using Nat.strongRecOn with
  | ind n ih =>
    intro i hi
    by_cases h : n < 128
    · rw [glen_small h] at hi; omega
    · rw [glen_big h] at hi
      cases i with
      | zero => simp; omega
      | succ i => rw [div_pow_succ]; exact ih (n / 128) (by omega) i (by omega)
theorem glen_hi : ∀ n : Nat, n / 128 ^ (glen n - 1) < 128 := by
  intro n
  induction n using Nat.strongRecOn with
  | ind n ih =>
    by_cases h : n < 128
    · rw [glen_small h]; simpa using h
    · have := glen_pos (n / 128)
      rw [glen_big h, show glen (n / 128) + 1 - 1 = (glen (n / 128) - 1) + 1 by omega, div_pow_succ]
      exact ih (n / 128) (by omega)
theorem glen_iff {n k : Nat} (h : k < glen n) : 128 ≤ n / 128 ^ k ↔ k + 1 < glen n := by
  constructor
  · intro h1
    by_cases h2 : k + 1 < glen n
    · exact h2
    · have := glen_hi n
      rw [show glen n - 1 = k by omega] at this
      omega
  · exact glen_lo n k
theorem glen_le {n : Nat} (h : n < 18446744073709551616) : glen n ≤ 10 := by
  by_cases hc : glen n ≤ 10
  · exact hc
  · have := glen_lo n 9 (by omega)
    have e : (128 : Nat) ^ 9 = 9223372036854775808 := by decide
    rw [e] at this
    omega
/-- byte i of the varint -/
def gby (n i : Nat) : Nat := if i + 1 < glen n then n / 128 ^ i % 128 + 128 else n / 128 ^ i
def varint (n : Nat) : List Int := (List.range (glen n)).map fun i => ((gby n i : Nat) : Int)
theorem varint_length (n : Nat) : (varint n).length = glen n := by simp [varint]
theorem varint_get {n i : Nat} (h : i < glen n) : (varint n)[i]? = some ((gby n i : Nat) : Int) := by simp [varint, h]
theorem gby_lt {n i : Nat} (h : i < glen n) : gby n i < 256 := by
  unfold gby
  split
  · omega
  · have := glen_hi n
    rw [show glen n - 1 = i by omega] at this
    omega
theorem gby_more {n i : Nat} (h : i + 1 < glen n) : 128 ≤ gby n i ∧ gby n i % 128 = n / 128 ^ i % 128 := by
  unfold gby; rw [if_pos h]; omega
theorem gby_last {n i : Nat} (h : i + 1 = glen n) : gby n i = n / 128 ^ i ∧ gby n i < 128 := by
  have := glen_hi n
  rw [show glen n - 1 = i by omega] at this
  unfold gby; rw [if_neg (by omega)]
  exact ⟨rfl, this⟩
/-- the first bytes as they are laid, behind them zeros -/
def gbyK (n k : Nat) : Nat → Int := fun i => if i < k then ((gby n i : Nat) : Int) else 0
/-- what a reader adds up: the low seven bits of the first i bytes, below 2^64 -/
def accF (xs : List Int) : Nat → Nat
  | 0 => 0
  | i + 1 => accF xs i + ((xs.getD i 0).toNat % 128 * 128 ^ i) % 18446744073709551616
theorem pow128 (i : Nat) : 0 < 128 ^ i := Nat.pow_pos (by decide)
theorem accF_lt (xs : List Int) : ∀ i, i ≤ 9 → accF xs i < 128 ^ i
  | 0, _ => by simp [accF]
  | i + 1, h => by
    have ih := accF_lt xs i (by omega)
    have h1 : (xs.getD i 0).toNat % 128 * 128 ^ i % 18446744073709551616 ≤ (xs.getD i 0).toNat % 128 * 128 ^ i := Nat.mod_le _ _
    have h2 : (xs.getD i 0).toNat % 128 * 128 ^ i ≤ 127 * 128 ^ i := Nat.mul_le_mul_right _ (by omega)
    have h3 : (128 : Nat) ^ (i + 1) = 128 ^ i * 128 := Nat.pow_succ _ _
    have h4 : accF xs (i + 1) = accF xs i + (xs.getD i 0).toNat % 128 * 128 ^ i % 18446744073709551616 := rfl
    omega
/-- the bytes of a varint add up to its number -/
theorem accF_varint (n : Nat) (r : List Int) (hn : n < 18446744073709551616) : ∀ i, i ≤ glen n → accF (varint n ++ r) i = n % 128 ^ i := by
  intro i
  induction i with
  | zero => intro _; simp [accF, Nat.mod_one]
  | succ i ih =>
    intro h
    have hg : (varint n ++ r).getD i 0 = ((gby n i : Nat) : Int) := by
      simp [List.getD, List.getElem?_append_left (by rw [varint_length]; omega : i < (varint n).length), varint_get (show i < glen n by omega)]
    have e : gby n i % 128 = n / 128 ^ i % 128 := by
      by_cases h1 : i + 1 < glen n
      · exact (gby_more h1).2
      · rw [(gby_last (by omega : i + 1 = glen n)).1]
    show accF _ i + _ = _
    rw [ih (by omega), hg, Int.toNat_natCast, e]
    have hm : n / 128 ^ i % 128 * 128 ^ i ≤ n / 128 ^ i * 128 ^ i := Nat.mul_le_mul_right _ (Nat.mod_le _ _)
    have hd : n / 128 ^ i * 128 ^ i ≤ n := Nat.div_mul_le_self _ _
    have hlt : n / 128 ^ i % 128 * 128 ^ i < 18446744073709551616 := by omega
    rw [Nat.mod_eq_of_lt hlt, Nat.pow_succ, Nat.mod_mul, Nat.mul_comm (n / 128 ^ i % 128)]
theorem mod_glen (n : Nat) : n % 128 ^ glen n = n := by
  apply Nat.mod_eq_of_lt
  have h := glen_hi n
  have hp := glen_pos n
  have h2 : n / 128 ^ glen n = 0 := by
    obtain ⟨k, hk⟩ : ∃ k, glen n = k + 1 := ⟨glen n - 1, by omega⟩
    rw [hk, Nat.add_sub_cancel] at h
    rw [hk, div_pow_step]; exact Nat.div_eq_of_lt h
  rcases Nat.lt_or_ge n (128 ^ glen n) with h3 | h3
  · exact h3
  · have := Nat.div_pos h3 (pow128 _); omega
end Go.Proofs.YtilpohdidekenaaGreatDoor

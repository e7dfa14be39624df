/- Part 18 of the proof. -/
import Derived.Test.YtggcodobkmhkgaaDoorFc15
import Derived.Test.YtggcodobkmhkgaaDoorFc17
namespace Go.Proofs.YtggcodobkmhkgaaDoor
set_option linter.unusedVariables false
set_option linter.unusedSimpArgs false
open Go.RowKit Go.Maps Go.Proofs
set_option maxRecDepth 100000
structure AF where
  nm : List UInt8
  xs : List Int
  safe : Nat
deriving DecidableEq
structure St where
  L : List AF
  steps : Nat
  armed : Bool
  left : Nat
  down : Bool
deriving DecidableEq
def absE (e : Ent) : AF := ⟨e.nm, e.xs, e.safe⟩
def absR (R : FsR) : St := ⟨R.es.map absE, R.steps, R.armed, R.left, R.down⟩
def aget (n : List UInt8) (L : List AF) : Option AF := L.find? fun f => f.nm == n
def adel (n : List UInt8) (L : List AF) : List AF := L.filter fun f => !(f.nm == n)
def ains (f : AF) : List AF → List AF
  | [] => [f]
  | y :: r => if bytesBefore f.nm y.nm then f :: y :: r else y :: ains f r
def aput (f : AF) (L : List AF) : List AF := ains f (adel f.nm L)
theorem abs_get (n : List UInt8) (es : List Ent) : aget n (es.map absE) = (getE n es).map absE := by
  unfold aget getE
  rw [List.find?_map]
  rfl
theorem abs_del (n : List UInt8) (es : List Ent) : (delE n es).map absE = adel n (es.map absE) := by
  unfold adel delE
  rw [List.filter_map]
  rfl
theorem abs_ins (e : Ent) : ∀ es : List Ent, (insE e es).map absE = ains (absE e) (es.map absE)
  | [] => rfl
  | y :: r => by
    unfold insE
    show _ = (if bytesBefore e.nm y.nm then _ else _)
    split
    · rfl
    · rw [List.map_cons, abs_ins e r]
theorem abs_put (e : Ent) (es : List Ent) : (putE e es).map absE = aput (absE e) (es.map absE) := by
  unfold putE aput
  rw [abs_ins, abs_del]
  rfl
def afXs : Option AF → List Int
  | some f => f.xs
  | none => []
def afSafe : Option AF → Nat
  | some f => f.safe
  | none => 0
theorem abs_xs (o : Option Ent) : afXs (o.map absE) = fileXs o := by cases o <;> rfl
theorem abs_safe (o : Option Ent) : afSafe (o.map absE) = fileSafe o := by cases o <;> rfl
def aFind (st : St) (s : ByteArray) : Option Nat × Option AF :=
  match checkE st.down [s] with
  | some n => (some n, none)
  | none => match aget s.data.toList st.L with | some f => (none, some f) | none => (some 8, none)
theorem abs_find (R : FsR) (s : ByteArray) : aFind (absR R) s = ((findR R s).1, (findR R s).2.map absE) := by
  unfold aFind findR
  show (match checkE R.down [s] with | some n => _ | none => _) = _
  cases checkE R.down [s] with
  | some n => rfl
  | none =>
    show (match aget s.data.toList (R.es.map absE) with | some f => _ | none => _) = _
    rw [abs_get]
    cases getE s.data.toList R.es <;> rfl
def aStepped (st : St) (L : List AF) : St := { st with L := L, steps := st.steps + 1, left := if st.armed then st.left - 1 else st.left }
def aStep (st : St) (L : List AF) : Option Nat × St := if st.armed = true ∧ st.left = 0 then (some 13, { st with down := true }) else (none, aStepped st L)
def aApE (st : St) (s : ByteArray) (m : Nat) : Option Nat :=
  match checkE st.down [s] with
  | some n => some n
  | none => if (aget s.data.toList st.L).isNone = true ∧ 64 ≤ st.L.length then some 10 else if 16777216 < (afXs (aget s.data.toList st.L)).length + m then some 2 else none
theorem abs_apE (R : FsR) (s : ByteArray) (m : Nat) : aApE (absR R) s m = apE R s m := by
  unfold aApE apE
  show (match checkE R.down [s] with | some n => _ | none => _) = _
  cases checkE R.down [s] with
  | some n => rfl
  | none =>
    show (if (aget s.data.toList (R.es.map absE)).isNone = true ∧ 64 ≤ (R.es.map absE).length then _ else if 16777216 < (afXs (aget s.data.toList (R.es.map absE))).length + m then _ else _) = _
    rw [abs_get, abs_xs, List.length_map]
    cases getE s.data.toList R.es <;> simp
def aAppend (st : St) (s : ByteArray) (ys : List Int) : Option Nat × St :=
  match aApE st s ys.length with
  | some n => (some n, st)
  | none =>
    let L := aput ⟨s.data.toList, afXs (aget s.data.toList st.L) ++ ys, afSafe (aget s.data.toList st.L)⟩ st.L
    if st.armed = true ∧ st.left = 0 then (some 13, { st with L := L, down := true }) else (none, aStepped st L)
def aSync (st : St) (s : ByteArray) : Option Nat × St :=
  match aFind st s with
  | (some n, _) => (some n, st)
  | (none, f) => aStep st (aput ⟨s.data.toList, afXs f, (afXs f).length⟩ st.L)
def aRemove (st : St) (s : ByteArray) : Option Nat × St :=
  match aFind st s with
  | (some n, _) => (some n, st)
  | (none, _) => aStep st (adel s.data.toList st.L)
def aCut (st : St) (s : ByteArray) (n : Int) : Option Nat × St :=
  match aFind st s with
  | (some k, _) => (some k, st)
  | (none, f) => if n < 0 ∨ ((afXs f).length : Int) < n then (some 1, st) else aStep st (aput ⟨s.data.toList, (afXs f).take n.toNat, n.toNat⟩ st.L)
def aRename (st : St) (s t : ByteArray) : Option Nat × St :=
  match checkE st.down [s, t] with
  | some n => (some n, st)
  | none => match aFind st s with
    | (some n, _) => (some n, st)
    | (none, f) => aStep st (aput ⟨t.data.toList, afXs f, afSafe f⟩ (adel s.data.toList st.L))
def aArm (st : St) (n : Int) : Option Nat × St := if n < 0 then (some 1, st) else if st.down then (some 13, st) else (none, { st with armed := true, left := n.toNat })
def aCutF (f : AF) (n : Nat) : AF := ⟨f.nm, f.xs.take n, n⟩
def aKept (f : AF) (k : Int) : Nat := f.safe + (min (max k 0) ((f.xs.length : Int) - f.safe)).toNat
def aStartL : List AF → List Int → List AF
  | [], _ => []
  | f :: r, ks => if f.xs.length = f.safe then f :: aStartL r ks else match ks with
    | [] => aCutF f f.safe :: aStartL r []
    | k :: t => aCutF f (aKept f k) :: aStartL r t
def aStart (st : St) (ks : List Int) : St := { st with L := aStartL st.L ks, armed := false, left := 0, down := false }
theorem abs_start : ∀ (es : List Ent) (ks : List Int), (startEs es ks).map absE = aStartL (es.map absE) ks
  | [], _ => rfl
  | e :: r, ks => by
    show (if e.xs.length = e.safe then _ else _ : List Ent).map absE = (if e.xs.length = e.safe then _ else _)
    split
    · rw [List.map_cons, abs_start r ks]
    · cases ks with
      | nil => show (cutEnt e e.safe :: startEs r []).map absE = _; rw [List.map_cons, abs_start r []]; rfl
      | cons k t => show (cutEnt e (keptN e k) :: startEs r t).map absE = _; rw [List.map_cons, abs_start r t]; rfl
/-- what a call that answers an error makes -/
def MethPost (R : FsR) (r : Option Nat × St) (w : World) (e : Ending) (w' : World) : Prop := e = .returned (errV r.1) ∧ ∃ R', StepTo R R' w w' ∧ absR R' = r.2
theorem meth_of_st {R : FsR} {er : Option Nat} {es : List Ent} {w w' : World} {e : Ending} (H : FsAt w R) (h : StPost R er es w e w') (r : Option Nat × St)
    (h1 : ∀ n, er = some n → r = (some n, absR R)) (h2 : er = none → r = aStep (absR R) (es.map absE)) : MethPost R r w e w' := by
  unfold StPost at h
  cases er with
  | some n => rw [h1 n rfl]; exact ⟨h.1, R, .of_below H h.2, rfl⟩
  | none =>
    rw [h2 rfl]
    refine ⟨?_, _, h.2, ?_⟩
    · rw [h.1]; unfold apErr aStep; show _ = Ending.returned (errV (if R.armed = true ∧ R.left = 0 then _ else _ : Option Nat × St).1); split <;> rfl
    · unfold stR aStep; show _ = (if R.armed = true ∧ R.left = 0 then _ else _ : Option Nat × St).2; split <;> rfl
theorem append_abs (R : FsR) (w : World) (H : FsAt w R) (s : ByteArray) (hs : s.size ≤ maxLen) (y : Value) (ys : List Int) (hy : BytesIn w y ys) (hyb : bytesOk ys) (hyl : ys.length ≤ 140737488355328) (hst : R.steps < 4611686018427387904) :
    Calls Tryd.prog 13 #[.pointer (some ⟨R.pb, 0, none⟩), .string s, y] w (MethPost R (aAppend (absR R) s ys) w) :=
  (append_any R w H s hs y ys hy hyb hyl hst).mono fun e w' h => by
    unfold AppendPost at h
    unfold aAppend
    rw [abs_apE]
    cases ha : apE R s ys.length with
    | some n => rw [ha] at h; exact ⟨h.1, R, .of_below H h.2, rfl⟩
    | none =>
      rw [ha] at h
      obtain ⟨he, v', hto⟩ := h
      have hL : (putE ⟨s.data.toList, v', fileXs (getE s.data.toList R.es) ++ ys, fileSafe (getE s.data.toList R.es)⟩ R.es).map absE = aput ⟨s.data.toList, afXs (aget s.data.toList (absR R).L) ++ ys, afSafe (aget s.data.toList (absR R).L)⟩ (absR R).L := by
        rw [abs_put]
        show aput ⟨_, _, _⟩ _ = _
        rw [show (absR R).L = R.es.map absE from rfl, abs_get, abs_xs, abs_safe]
      refine ⟨?_, _, hto, ?_⟩
      · rw [he]; unfold apErr; show _ = Ending.returned (errV (if R.armed = true ∧ R.left = 0 then _ else _ : Option Nat × St).1); split <;> rfl
      · show _ = (if R.armed = true ∧ R.left = 0 then _ else _ : Option Nat × St).2
        rw [← hL]
        unfold apR absR
        split <;> rfl
theorem sync_abs (R : FsR) (w : World) (H : FsAt w R) (s : ByteArray) (hs : s.size ≤ maxLen) (hst : R.steps < 4611686018427387904) :
    Calls Tryd.prog 16 #[.pointer (some ⟨R.pb, 0, none⟩), .string s] w (MethPost R (aSync (absR R) s) w) :=
  (sync_any R w H s hs hst).mono fun e w' h => by
    refine meth_of_st H h _ (fun n hn => ?_) fun hn => ?_
    · unfold aSync; rw [abs_find, hn]
    · unfold aSync; rw [abs_find, hn]
      obtain ⟨er, oe, hr⟩ : ∃ er oe, findR R s = (er, oe) := ⟨_, _, rfl⟩
      rw [hr] at hn ⊢
      cases oe with
      | none => obtain ⟨n, rfl⟩ := findR_none hr; cases hn
      | some en =>
        obtain ⟨_, hm⟩ := findR_mem hr
        show aStep _ (aput ⟨s.data.toList, en.xs, en.xs.length⟩ (R.es.map absE)) = _
        unfold syncEs
        rw [hm, abs_put]; rfl
theorem arm_abs (R : FsR) (w : World) (H : FsAt w R) (n : Int) (hn : n ≤ 9223372036854775807) : Calls Tryd.prog 17 #[.pointer (some ⟨R.pb, 0, none⟩), .int .i64 n] w (MethPost R (aArm (absR R) n) w) :=
  (arm_any R w H n hn).mono fun e w' h => by
    obtain ⟨he, hf, hk⟩ := h
    have hto : StepTo R (armR R n) w w' := by
      have h1 : (armR R n).pb = R.pb ∧ (armR R n).mb = R.mb ∧ (armR R n).es = R.es := by unfold armR; split; exact ⟨rfl, rfl, rfl⟩; split <;> exact ⟨rfl, rfl, rfl⟩
      refine ⟨hf, hk, h1.1, h1.2.1, fun k o _ h => ?_, fun k o _ h => ?_⟩
      · unfold Foot at h ⊢; rw [h1.1, h1.2.1, h1.2.2] at h; exact h
      · unfold Reads at h ⊢; rw [h1.1, h1.2.1, h1.2.2] at h; exact h
    refine ⟨?_, _, hto, ?_⟩
    · rw [he]; unfold armE aArm absR; split; rfl; split <;> rfl
    · unfold armR aArm absR; split; rfl; split <;> rfl
theorem start_abs (R : FsR) (w : World) (H : FsAt w R) (kv : Value) (ks : List Int) (hk : KeepIn R w kv ks) : Calls Tryd.prog 12 #[.pointer (some ⟨R.pb, 0, none⟩), kv] w fun e w' => e = .returned (.tuple #[]) ∧ ∃ R', StepTo R R' w w' ∧ absR R' = aStart (absR R) ks :=
  (start_any R w H kv ks hk).mono fun e w' h => ⟨h.1, _, h.2, by unfold startR aStart absR; simp only [abs_start]⟩
theorem remove_abs (R : FsR) (w : World) (H : FsAt w R) (s : ByteArray) (hs : s.size ≤ maxLen) (hst : R.steps < 4611686018427387904) :
    Calls Tryd.prog 43 #[.pointer (some ⟨R.pb, 0, none⟩), .string s] w (MethPost R (aRemove (absR R) s) w) :=
  (remove_any R w H s hs hst).mono fun e w' h => by
    refine meth_of_st H h _ (fun n hn => ?_) fun hn => ?_
    · unfold aRemove; rw [abs_find, hn]
    · unfold aRemove; rw [abs_find, hn, abs_del]; rfl
theorem cut_abs (R : FsR) (w : World) (H : FsAt w R) (s : ByteArray) (hs : s.size ≤ maxLen) (n : Int) (hst : R.steps < 4611686018427387904) :
    Calls Tryd.prog 44 #[.pointer (some ⟨R.pb, 0, none⟩), .string s, .int .i64 n] w (MethPost R (aCut (absR R) s n) w) :=
  (cut_any R w H s hs n hst).mono fun e w' h => by
    obtain ⟨er, oe, hr⟩ : ∃ er oe, findR R s = (er, oe) := ⟨_, _, rfl⟩
    cases er with
    | some j =>
      have hcE : cutE R s n = some j := by unfold cutE; rw [hr]
      have haC : aCut (absR R) s n = (some j, absR R) := by unfold aCut; rw [abs_find, hr]
      refine meth_of_st H h _ (fun k hk => ?_) fun hk => ?_
      · rw [hcE] at hk; injection hk with hk; rw [haC, hk]
      · rw [hcE] at hk; cases hk
    | none =>
      have hcE : cutE R s n = if n < 0 ∨ ((fileXs oe).length : Int) < n then some 1 else none := by unfold cutE; rw [hr]
      have haC : aCut (absR R) s n = if n < 0 ∨ ((fileXs oe).length : Int) < n then (some 1, absR R) else aStep (absR R) (aput ⟨s.data.toList, (fileXs oe).take n.toNat, n.toNat⟩ (absR R).L) := by
        unfold aCut; rw [abs_find, hr]; simp only [abs_xs]
      by_cases hc : n < 0 ∨ ((fileXs oe).length : Int) < n
      · rw [if_pos hc] at hcE haC
        refine meth_of_st H h _ (fun k hk => ?_) fun hk => ?_
        · rw [hcE] at hk; injection hk with hk; rw [haC, hk]
        · rw [hcE] at hk; cases hk
      · rw [if_neg hc] at hcE haC
        refine meth_of_st H h _ (fun k hk => ?_) fun hk => ?_
        · rw [hcE] at hk; cases hk
        · rw [haC]
          cases oe with
          | none => obtain ⟨n, h⟩ := findR_none hr; cases h
          | some en =>
            obtain ⟨_, hm⟩ := findR_mem hr
            unfold cutEs
            rw [hm, abs_put]; rfl
theorem rename_abs (R : FsR) (w : World) (H : FsAt w R) (s t : ByteArray) (hs : s.size ≤ maxLen) (ht : t.size ≤ maxLen) (hst : R.steps < 4611686018427387904) :
    Calls Tryd.prog 42 #[.pointer (some ⟨R.pb, 0, none⟩), .string s, .string t] w (MethPost R (aRename (absR R) s t) w) :=
  (rename_any R w H s t hs ht hst).mono fun e w' h => by
    have haR : aRename (absR R) s t = match checkE R.down [s, t] with | some n => (some n, absR R) | none => match aFind (absR R) s with | (some n, _) => (some n, absR R) | (none, f) => aStep (absR R) (aput ⟨t.data.toList, afXs f, afSafe f⟩ (adel s.data.toList (absR R).L)) := rfl
    refine meth_of_st H h _ (fun k hk => ?_) fun hk => ?_
    · rw [haR]; unfold renE at hk
      cases hc : checkE R.down [s, t] with
      | some j => rw [hc] at hk; simp only at hk ⊢; injection hk with hk; rw [hk]
      | none => rw [hc] at hk; simp only at hk ⊢; rw [abs_find, hk]
    · rw [haR]; unfold renE at hk
      cases hc : checkE R.down [s, t] with
      | some j => rw [hc] at hk; cases hk
      | none =>
        rw [hc] at hk; simp only at hk ⊢
        rw [abs_find, hk]
        simp only
        obtain ⟨er, oe, hr⟩ : ∃ er oe, findR R s = (er, oe) := ⟨_, _, rfl⟩
        rw [hr] at hk ⊢
        cases oe with
        | none => obtain ⟨n, rfl⟩ := findR_none hr; cases hk
        | some en =>
          obtain ⟨_, hm⟩ := findR_mem hr
          unfold renEs
          rw [hm, abs_put, abs_del]; rfl
/-- a file system that a call has made: it lies from block B on -/
structure Own (B : Nat) (w : World) (R : FsR) : Prop where
  fs : FsAt w R
  reads : ∀ k o, Reads R k o → B ≤ k
  le : B ≤ w.heap.size
theorem Own.step {B : Nat} {w w' : World} {R R' : FsR} (h : Own B w R) (s : StepTo R R' w w') : Own B w' R' ∧ Below B w w' := by
  refine ⟨⟨s.fs, fun k o hr => ?_, Nat.le_trans h.le s.keep.size⟩, s.keep.below (fun i o hi hf => ?_) h.le⟩
  · rcases Nat.lt_or_ge k w.heap.size with hk | hk
    · exact h.reads k o (s.reads k o hk hr)
    · exact Nat.le_trans h.le hk
  · have := h.reads i o hf.reads; omega
theorem Own.below {B : Nat} {w w' : World} {R : FsR} (h : Own B w R) (hb : Below w.heap.size w w') : Own B w' R := ⟨h.fs.below hb, h.reads, Nat.le_trans h.le hb.size⟩
theorem Own.made {w w' : World} (hf : FsAt w' (freshR w)) (hb : Below w.heap.size w w') : Own w.heap.size w' (freshR w) :=
  ⟨hf, (fun k o hr => by
    rcases hr with h | h | ⟨e, he, _⟩
    · rw [h]; exact Nat.le_succ _
    · rw [h]; exact Nat.le_refl _
    · cases he), hb.size⟩
end Go.Proofs.YtggcodobkmhkgaaDoor

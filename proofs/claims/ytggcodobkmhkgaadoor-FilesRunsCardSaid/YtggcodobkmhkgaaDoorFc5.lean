/- Part 5 of the proof. -/
import Derived.ProofKit
import Derived.OpenShut
import Derived.Deep.Slices
import Derived.SizedLaws
import Derived.Test.YtggcodobkmhkgaaDoorFc1
import Derived.Test.YtggcodobkmhkgaaDoorFc4
namespace Go.Proofs.YtggcodobkmhkgaaDoor
set_option linter.unusedVariables false
set_option linter.unusedSimpArgs false
open Go.ChangeShapes Go.WideShapes Go.ChangeAt Go.RowKit
theorem cellsU8 : Tryd.prog.cellsOf 5 = 1 := by kernel_rfl
theorem bytesOfU8 : Tryd.prog.bytesOf 5 = 1 := by kernel_rfl
/-- each value counts one at least -/
theorem bulk_one {H : Type} (d : DataW H) : 1 ≤ Rows.uptoBulk d := by
  cases d with
  | lit l => cases l <;> simp [Rows.uptoBulk]
  | _ => simp [Rows.uptoBulk]
theorem bulk_len {H : Type} : ∀ l : List (DataW H), l.length ≤ Rows.uptoBulkAll l
  | [] => by simp
  | d :: r => by
    have h1 := bulk_one d
    have h2 := bulk_len r
    simp only [Rows.uptoBulkAll, List.length_cons]
    omega
theorem bulk_mem {H : Type} {d : DataW H} : ∀ {l : List (DataW H)}, d ∈ l → Rows.uptoBulk d ≤ Rows.uptoBulkAll l
  | e :: r, h => by
    simp only [Rows.uptoBulkAll]
    rcases List.mem_cons.1 h with rfl | h
    · omega
    · have := bulk_mem h; omega
/-- a slice of bytes that came in -/
theorem bytes_raw {H : Type} {enc : TypeId × Value → H} {W : World} {fuel : Nat} {cs : List Value} {x : DataW H × List MemPlace} (h : DataW.trod enc Tryd.prog W 0 (fun _ => true) true fuel 30 cs = some x) :
    ∃ v xs, cs = [v] ∧ BytesIn W v xs ∧ bytesOk xs ∧ (∃ a c, v = .slice a xs.length c) ∧ xs.length ≤ Rows.uptoBulk x.1 ∧ (x.1 = .nil ∧ xs = [] ∨ ∃ elems spare, x.1 = .slice elems spare ∧ elems.length = xs.length) := by
  rcases open_ints Tryd.underlying30 Tryd.underlying5 (by kernel_rfl) h with ⟨hcs, hx⟩ | ⟨a, l, c, zs, hcs, _, hl, hm, hz, hx, hcell, hwz⟩
  · exact ⟨_, [], hcs, ⟨_, _, rfl, by simp, by simp [maxLen], .inl rfl⟩, (by intro x hx; cases hx), ⟨_, _, rfl⟩, by simp, .inl ⟨by rw [hx], rfl⟩⟩
  · simp only [if_true] at hz
    have hlen : (zs.take l).length = l := by rw [List.length_take]; omega
    refine ⟨_, zs.take l, hcs, ⟨some a, c, by rw [hlen], by rw [hlen]; exact hl, by rw [hlen]; omega, ?_⟩, fun y hy => ?_, ⟨some a, c, by rw [hlen]⟩, ?_, ?_⟩
    · by_cases hl0 : l = 0
      · left; subst hl0; simp
      · right
        obtain ⟨b, off, spot⟩ := a
        have hspot : spot = none := by simpa [Addr.add] using World.cell?_spot (hcell 0 (by omega))
        subst hspot
        refine ⟨b, off, rfl, fun i y hi => ?_⟩
        have hil : i < l := by have := (List.getElem?_eq_some_iff.1 hi).1; omega
        rw [List.getElem?_take, if_pos hil] at hi
        have := hcell i (by omega)
        rw [Addr.add_mid] at this
        rw [this]
        simp [List.getD, hi]
    · have h2 := bounds_u8 (hwz y (List.mem_of_mem_take hy))
      omega
    · rw [hx]
      have h1 := bulk_len (lits (H := H) IntKind.u8 (zs.take l))
      simp only [lits, List.length_map] at h1
      simp only [Rows.uptoBulk, lits]
      omega
    · rw [hx]
      exact .inr ⟨_, _, rfl, by simp [lits]⟩
/-- a slice of bytes that came in -/
theorem bytes_arg {H : Type} {enc : TypeId × Value → H} {W : World} {a : Option Addr} {len cap : Nat} {d : DataW H} {p : List MemPlace} (h : DataW.Trod enc Tryd.prog W 0 (fun _ => true) true 30 (.slice a len cap) d p) :
    ∃ xs : List Int, xs.length = len ∧ BytesIn W (.slice a len cap) xs ∧ bytesOk xs ∧ (∀ ts ds : List _, ∀ j : Nat, ts[j]? = some 30 → ds[j]? = some d → (DataW.weightsEach Tryd.prog ts ds).all (· ≤ reachBytes) = true → len ≤ 140737488351232) := by
  obtain ⟨fuel, hf⟩ := h
  obtain ⟨v, xs, hcs, hin, hok, ⟨a', c', hv⟩, _, hd⟩ := bytes_raw hf
  simp only [Value.cells] at hcs
  obtain rfl : Value.slice a len cap = v := by simpa using hcs
  injection hv with e1 e2 e3
  refine ⟨xs, e2.symm, hin, hok, fun ts ds j ht hdj hw => ?_⟩
  rcases hd with ⟨_, rfl⟩ | ⟨elems, spare, he, hel⟩
  · simp at e2; omega
  · simp only at he
    rw [he] at hdj
    have := sized_slice hw (j := j) (t := 30) (e := 5) ht hdj Tryd.underlying30
    rw [bytesOfU8] at this
    simp only [reachBytes] at this
    omega
theorem bytes_argB {H : Type} {enc : TypeId × Value → H} {W : World} {a : Option Addr} {len cap : Nat} {d : DataW H} {p : List MemPlace} (h : DataW.Trod enc Tryd.prog W 0 (fun _ => true) true 30 (.slice a len cap) d p) :
    ∃ xs : List Int, xs.length = len ∧ BytesIn W (.slice a len cap) xs ∧ bytesOk xs ∧ len ≤ Rows.uptoBulk d := by
  obtain ⟨fuel, hf⟩ := h
  obtain ⟨v, xs, hcs, hin, hok, ⟨a', c', hv⟩, hbulk, hd⟩ := bytes_raw hf
  simp only [Value.cells] at hcs
  obtain rfl : Value.slice a len cap = v := by simpa using hcs
  injection hv with e1 e2 e3
  exact ⟨xs, e2.symm, hin, hok, by rw [e2]; exact hbulk⟩
/-- a slice of slices of bytes -/
def BssIn (w : World) (v : Value) (ps : List (List Int)) : Prop :=
  ∃ a c, v = .slice a ps.length c ∧ ps.length ≤ c ∧ ps.length ≤ maxLen ∧ (ps = [] ∨ ∃ ab ao, a = some ⟨ab, ao, none⟩ ∧ ∀ i p, ps[i]? = some p → ∃ u, w.cell? ⟨ab, ao + i, none⟩ = some u ∧ BytesIn w u p)
theorem BssIn.below {w w' : World} {v : Value} {ps : List (List Int)} (h : BssIn w v ps) (hb : Below w.heap.size w w') : BssIn w' v ps := by
  obtain ⟨a, c, rfl, hc, hm, hx⟩ := h
  refine ⟨a, c, rfl, hc, hm, ?_⟩
  rcases hx with hx | ⟨ab, ao, rfl, hx⟩
  · exact .inl hx
  · refine .inr ⟨ab, ao, rfl, fun i p hi => ?_⟩
    obtain ⟨u, hu, hp⟩ := hx i p hi
    exact ⟨u, (hb.cell (p := ⟨ab, ao + i, none⟩) (World.block_lt_of_cell? w _ hu)).trans hu, hp.below hb⟩
end Go.Proofs.YtggcodobkmhkgaaDoor
namespace Go.Proofs.YtggcodobkmhkgaaDoor
set_option linter.unusedVariables false
set_option linter.unusedSimpArgs false
open Go.RowKit Go.Maps
set_option maxRecDepth 100000
/-- can a file have this name? -/
def nmOk (l : List UInt8) : Bool := decide (0 < l.length) && decide (l.length ≤ 64) && l.all fun b => decide (33 ≤ b.toNat) && decide (b.toNat ≤ 126)
structure FsR where
  pb : Nat
  mb : Nat
  es : List Ent
  steps : Nat
  armed : Bool
  left : Nat
  down : Bool
def fsCells (R : FsR) : Array Value := #[.map (some R.mb), .int .i64 R.steps, .bool R.armed, .int .i64 R.left, .bool R.down]
def ApartE (a b : Ent) : Prop := ∀ k o, (Spare a.v k o → ¬ Used b.v k o) ∧ (Spare b.v k o → ¬ Used a.v k o)
def EntOk (w : World) (e : Ent) : Prop := ViewAt w e.v e.xs ∧ e.safe ≤ e.xs.length ∧ e.xs.length ≤ 16777216 ∧ nmOk e.nm = true ∧ bytesOk e.xs
/-- the file system at block R.pb -/
structure FsAt (w : World) (R : FsR) : Prop where
  own : w.heap[R.pb]? = some (.cells (fsCells R) 98 (0, 0))
  map : w.ownsMap Tryd.prog 9 heldE R.mb R.es.length (entD R.es)
  ents : ∀ e ∈ R.es, EntOk w e
  sorted : SortedE R.es
  apart : R.es.Pairwise ApartE
  many : R.es.length ≤ 64
  leftOk : (R.left : Int) ≤ 9223372036854775807
/-- the cells that a call may turn -/
def Foot (R : FsR) (k o : Nat) : Prop := k = R.pb ∨ k = R.mb ∨ ∃ e ∈ R.es, Spare e.v k o
/-- the cells that it reads -/
def Reads (R : FsR) (k o : Nat) : Prop := k = R.pb ∨ k = R.mb ∨ ∃ e ∈ R.es, Used e.v k o
theorem FsAt.pb_lt {w : World} {R : FsR} (h : FsAt w R) : R.pb < w.heap.size := (Array.getElem?_eq_some_iff.1 h.own).1
theorem FsAt.mb_lt {w : World} {R : FsR} (h : FsAt w R) : R.mb < w.heap.size := h.map.lt
theorem FsAt.ne {w : World} {R : FsR} (h : FsAt w R) : R.pb ≠ R.mb := fun e => by
  obtain ⟨es, cl, hb, _⟩ := h.map
  rw [← e, h.own] at hb; cases hb
theorem ownsMap_keep {F : Nat → Nat → Prop} {w w' : World} {b n : Nat} {D : DataW Value} (h : w.ownsMap Tryd.prog 9 heldE b n D) (hk : Keep F w w') (hF : ∀ o, ¬ F b o) : w'.ownsMap Tryd.prog 9 heldE b n D := by
  have hlt := h.lt
  obtain ⟨es, cl, hb, r⟩ := h
  exact ⟨es, cl, (hk.block b hlt hF).trans hb, r⟩
theorem FsAt.keep {F : Nat → Nat → Prop} {w w' : World} {R : FsR} (h : FsAt w R) (hk : Keep F w w') (hF : ∀ k o, F k o → ¬ Reads R k o) : FsAt w' R where
  own := (hk.block _ h.pb_lt fun o ho => hF _ o ho (.inl rfl)).trans h.own
  map := ownsMap_keep h.map hk fun o ho => hF _ o ho (.inr (.inl rfl))
  ents e he := ⟨(h.ents e he).1.keep hk fun k o hf hu => absurd (.inr (.inr ⟨e, he, hu⟩)) (hF k o hf), (h.ents e he).2⟩
  sorted := h.sorted
  apart := h.apart
  many := h.many
  leftOk := h.leftOk
theorem FsAt.below {w w' : World} {R : FsR} (h : FsAt w R) (hb : Below w.heap.size w w') : FsAt w' R := h.keep (F := fun _ _ => False) (.of_below hb) fun _ _ hf => hf.elim
theorem FsAt.drew {w : World} {R : FsR} (h : FsAt w R) : FsAt w.drew R := h.below ((Below.refl _ w).drew)
theorem FsAt.reads_lt {w : World} {R : FsR} (h : FsAt w R) : ∀ k o, Reads R k o → k < w.heap.size := by
  rintro k o (rfl | rfl | ⟨e, he, hu⟩)
  · exact h.pb_lt
  · exact h.mb_lt
  · exact (h.ents e he).1.lt k o hu
theorem Foot.reads {R : FsR} {k o : Nat} (h : Foot R k o) : Reads R k o := by
  rcases h with h | h | ⟨e, he, hs⟩
  · exact .inl h
  · exact .inr (.inl h)
  · exact .inr (.inr ⟨e, he, hs.used⟩)
theorem FsAt.pb_u8 {w : World} {R : FsR} (h : FsAt w R) {e : Ent} (he : EntOk w e) : ∀ o, ¬ Used e.v R.pb o := fun o hu => by
  obtain ⟨cur, hc⟩ := he.1.isU8 _ _ hu
  rw [h.own] at hc; injection hc with hc; injection hc with _ hc; exact absurd hc (by decide)
theorem FsAt.mb_u8 {w : World} {R : FsR} (h : FsAt w R) {e : Ent} (he : EntOk w e) : ∀ o, ¬ Used e.v R.mb o := fun o hu => by
  obtain ⟨cur, hc⟩ := he.1.isU8 _ _ hu
  obtain ⟨es, cl, hb, _⟩ := h.map
  rw [hc] at hb; cases hb
theorem FsAt.cell {w : World} {R : FsR} (h : FsAt w R) (i : Nat) : w.cell? ⟨R.pb, i, none⟩ = (fsCells R)[i]? := cell_of_row w R.pb i _ _ _ h.own
theorem FsAt.free {w : World} {R : FsR} (h : FsAt w R) (i : Nat) : w.frozen? ⟨R.pb, i, none⟩ = false := frozen_of_row w R.pb i _ _ h.own
/-- a field is written -/
theorem FsAt.set {w : World} {R R' : FsR} (h : FsAt w R) (i : Nat) (v : Value) (hpb : R'.pb = R.pb) (hmb : R'.mb = R.mb) (hes : R'.es = R.es) (hl : (R'.left : Int) ≤ 9223372036854775807) (hc : (fsCells R).setIfInBounds i v = fsCells R') : FsAt (w.setCell ⟨R.pb, i, none⟩ v) R' := by
  have hk : Keep (fun k _ => k = R.pb) w (w.setCell ⟨R.pb, i, none⟩ v) := .setCell w R.pb i _ _ v h.own rfl
  refine ⟨by rw [hpb, heap_setCell_same w R.pb i _ _ _ h.own, hc], by rw [hmb, hes]; exact ownsMap_keep h.map hk fun o ho => h.ne ho.symm, by rw [hes]; exact fun e he => ⟨(h.ents e he).1.keep hk fun k o hf hu => absurd hu (by subst hf; exact h.pb_u8 (h.ents e he) o), (h.ents e he).2⟩, by rw [hes]; exact h.sorted, by rw [hes]; exact h.apart, by rw [hes]; exact h.many, hl⟩
theorem FsAt.setKeep {w : World} {R : FsR} (h : FsAt w R) (i : Nat) (v : Value) : Keep (Foot R) w (w.setCell ⟨R.pb, i, none⟩ v) := .setCell w R.pb i _ _ v h.own (.inl rfl)
theorem strLaw : Keyed Tryd.prog 9 := string_keyed Tryd.underlying9
theorem zeroFile (w : World) : (zeroValue 113).run Tryd.prog w = .ok (.agg #[.slice none 0 0, .int .i64 0]) w := by kernel_rfl
def fileV : Option Ent → Value
  | some e => entV e
  | none => .agg #[.slice none 0 0, .int .i64 0]
theorem keyStr (s : ByteArray) (h : s.size ≤ maxLen) : keyOf Tryd.prog 9 (.string s) = some (.string s.data.toList) := Go.WideMaps.keyOf_string_mk Tryd.underlying9 h
/-- v, ok := files[name] -/
theorem FsAt.look {w : World} {R : FsR} (h : FsAt w R) (s : ByteArray) (hs : s.size ≤ maxLen) : (Instr.lookup 96 (.map (some R.mb)) (.string s) true).run Tryd.prog w = .ok (.tuple #[fileV (getE s.data.toList R.es), .bool (getE s.data.toList R.es).isSome]) w := by
  obtain ⟨v, ps, hr, hv⟩ := h.map.look_ok strLaw Tryd.underlying96 (zeroFile w) (zd := .held (.agg #[.slice none 0 0, .int .i64 0])) (zp := []) rfl (keyStr s hs)
  rw [hr, entD_has]
  rw [entD_at] at hv
  unfold heldE at hv
  injection hv with hv; injection hv with hv _
  cases hg : getE s.data.toList R.es with
  | none => rw [hg] at hv; injection hv with hv; subst hv; rfl
  | some e => rw [hg] at hv; injection hv with hv; subst hv; rfl
theorem FsAt.look1 {w : World} {R : FsR} (h : FsAt w R) (s : ByteArray) (hs : s.size ≤ maxLen) : (Instr.lookup 96 (.map (some R.mb)) (.string s) false).run Tryd.prog w = .ok (fileV (getE s.data.toList R.es)) w := by
  obtain ⟨v, ps, hr, hv⟩ := h.map.lookup strLaw Tryd.underlying96 (zeroFile w) (zd := .held (.agg #[.slice none 0 0, .int .i64 0])) (zp := []) rfl (keyStr s hs)
  rw [hr]
  rw [entD_at] at hv
  unfold heldE at hv
  injection hv with hv; injection hv with hv _
  cases hg : getE s.data.toList R.es with
  | none => rw [hg] at hv; injection hv with hv; subst hv; rfl
  | some e => rw [hg] at hv; injection hv with hv; subst hv; rfl
theorem tight {w : World} {b n : Nat} {es : List Ent} (h : w.ownsMap Tryd.prog 9 heldE b n (entD es)) : w.ownsMap Tryd.prog 9 heldE b es.length (entD es) := by
  obtain ⟨es', cl, hb, F, hs, hD⟩ := h
  refine ⟨es', cl, hb, F, ?_, hD⟩
  have := entD_size es
  rw [hD] at this
  simp only [Maps.size, length_sorted, List.length_map, Array.length_toList] at this
  omega
/-- files[name] = x, where x is a file's new value -/
theorem FsAt.put {w : World} {R : FsR} (h : FsAt w R) (s : ByteArray) (hs : s.size ≤ maxLen) (e : Ent) (hn : e.nm = s.data.toList) (he : EntOk w e) (hap : ∀ x ∈ R.es, x.nm ≠ e.nm → ApartE e x) (hm : (putE e R.es).length ≤ 64) :
    ∃ w', (Instr.mapUpdate 96 (.map (some R.mb)) (.string s) (entV e)).run Tryd.prog w = .ok () w' ∧ FsAt w' { R with es := putE e R.es } ∧ Keep (fun k _ => k = R.mb) w w' := by
  obtain ⟨w', hr, ho, ht⟩ := h.map.store strLaw Tryd.underlying96 (by have := h.many; unfold maxLen; omega) (keyStr s hs) (d := .held (entV e)) (ps := []) rfl
  have hk : Keep (fun k _ => k = R.mb) w w' := .map ht rfl
  rw [← hn, entD_put] at ho
  have hmem : ∀ x ∈ putE e R.es, EntOk w x := fun x hx => by
    rcases mem_putE.1 hx with rfl | ⟨hx, _⟩
    · exact he
    · exact h.ents x hx
  refine ⟨w', hr, ⟨(hk.block _ h.pb_lt fun o ho => h.ne ho).trans h.own, tight ho, fun x hx => ⟨(hmem x hx).1.keep hk fun k o hf hu => absurd hu (by subst hf; exact h.mb_u8 (hmem x hx) o), (hmem x hx).2⟩, sorted_put h.sorted, ?_, hm, h.leftOk⟩, hk⟩
  show (putE e R.es).Pairwise ApartE
  unfold putE
  have hd : (delE e.nm R.es).Pairwise ApartE := h.apart.filter _
  have hap' : ∀ x ∈ delE e.nm R.es, ApartE e x := fun x hx => hap x (mem_delE.1 hx).1 (mem_delE.1 hx).2
  generalize delE e.nm R.es = l at hd hap'
  induction l with
  | nil => simp [insE]
  | cons y r ih =>
    unfold insE
    split
    · exact List.pairwise_cons.2 ⟨hap', hd⟩
    · obtain ⟨h1, h2⟩ := List.pairwise_cons.1 hd
      refine List.pairwise_cons.2 ⟨fun q hq => ?_, ih h2 fun x hx => hap' x (List.mem_cons_of_mem _ hx)⟩
      rcases mem_insE.1 hq with rfl | hq
      · exact fun k o => ⟨(hap' y (by simp) k o).2, (hap' y (by simp) k o).1⟩
      · exact h1 q hq
/-- delete(files, name) -/
theorem FsAt.drop {w : World} {R : FsR} (h : FsAt w R) (s : ByteArray) (hs : s.size ≤ maxLen) (ty : TypeId) :
    ∃ w', (Builtin.delete_ #[96, 9] ty #[.map (some R.mb), .string s]).run Tryd.prog w = .ok (.tuple #[]) w' ∧ FsAt w' { R with es := delE s.data.toList R.es } ∧ Keep (fun k _ => k = R.mb) w w' := by
  obtain ⟨w', hr, ho, ht⟩ := h.map.drop strLaw Tryd.underlying96 (keyStr s hs) ty
  have hk : Keep (fun k _ => k = R.mb) w w' := .map ht rfl
  rw [entD_del] at ho
  have hmem : ∀ x ∈ delE s.data.toList R.es, EntOk w x := fun x hx => h.ents x (mem_delE.1 hx).1
  exact ⟨w', hr, ⟨(hk.block _ h.pb_lt fun o ho => h.ne ho).trans h.own, tight ho, fun x hx => ⟨(hmem x hx).1.keep hk fun k o hf hu => absurd hu (by subst hf; exact h.mb_u8 (hmem x hx) o), (hmem x hx).2⟩, sorted_del _ h.sorted, h.apart.filter _, Nat.le_trans (List.length_filter_le _ _) h.many, h.leftOk⟩, hk⟩
end Go.Proofs.YtggcodobkmhkgaaDoor

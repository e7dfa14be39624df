/- A file system in memory. -/
import Derived.Test.YtbnflhdioohfeaaFiBase
import Derived.Test.YtbnflhdioohfeaaArg
namespace Go.Proofs.Ytbnflhdioohfeaa
open Go.RowKit Go.Maps
set_option maxRecDepth 100000
/-- can a file have this name? -/
def nmOk (l : List UInt8) : Bool := decide (0 < l.length) && decide (l.length ≤ 64) && l.all fun b => decide (33 ≤ b.toNat) && decide (b.toNat ≤ 126)
structure FsR where
  pb : Nat
  mb : Nat
  es : List Ent
  steps : Nat
  armed : Bool
  left : Nat
  down : Bool
def fsCells (R : FsR) : Array Value := #[.map (some R.mb), .int .i64 R.steps, .bool R.armed, .int .i64 R.left, .bool R.down]
def ApartE (a b : Ent) : Prop := ∀ k o, (Spare a.v k o → ¬ Used b.v k o) ∧ (Spare b.v k o → ¬ Used a.v k o)
def EntOk (w : World) (e : Ent) : Prop := ViewAt w e.v e.xs ∧ e.safe ≤ e.xs.length ∧ e.xs.length ≤ 16777216 ∧ nmOk e.nm = true ∧ bytesOk e.xs
/-- the file system at block R.pb -/
structure FsAt (w : World) (R : FsR) : Prop where
  own : w.heap[R.pb]? = some (.cells (fsCells R) 43 (0, 0))
  map : w.ownsMap Try.prog 9 heldE R.mb R.es.length (entD R.es)
  ents : ∀ e ∈ R.es, EntOk w e
  sorted : SortedE R.es
  apart : R.es.Pairwise ApartE
  many : R.es.length ≤ 64
  leftOk : (R.left : Int) ≤ 9223372036854775807
/-- the cells that a call may turn -/
def Foot (R : FsR) (k o : Nat) : Prop := k = R.pb ∨ k = R.mb ∨ ∃ e ∈ R.es, Spare e.v k o
/-- the cells that it reads -/
def Reads (R : FsR) (k o : Nat) : Prop := k = R.pb ∨ k = R.mb ∨ ∃ e ∈ R.es, Used e.v k o
theorem FsAt.pb_lt {w : World} {R : FsR} (h : FsAt w R) : R.pb < w.heap.size := (Array.getElem?_eq_some_iff.1 h.own).1
theorem FsAt.mb_lt {w : World} {R : FsR} (h : FsAt w R) : R.mb < w.heap.size := h.map.lt
theorem FsAt.ne {w : World} {R : FsR} (h : FsAt w R) : R.pb ≠ R.mb := fun e => by
  obtain ⟨es, cl, hb, _⟩ := h.map
  rw [← e, h.own] at hb; cases hb
theorem ownsMap_keep {F : Nat → Nat → Prop} {w w' : World} {b n : Nat} {D : DataW Value} (h : w.ownsMap Try.prog 9 heldE b n D) (hk : Keep F w w') (hF : ∀ o, ¬ F b o) : w'.ownsMap Try.prog 9 heldE b n D := by
  have hlt := h.lt
  obtain ⟨es, cl, hb, r⟩ := h
  exact ⟨es, cl, (hk.block b hlt hF).trans hb, r⟩
theorem FsAt.keep {F : Nat → Nat → Prop} {w w' : World} {R : FsR} (h : FsAt w R) (hk : Keep F w w') (hF : ∀ k o, F k o → ¬ Reads R k o) : FsAt w' R where
  own := (hk.block _ h.pb_lt fun o ho => hF _ o ho (.inl rfl)).trans h.own
  map := ownsMap_keep h.map hk fun o ho => hF _ o ho (.inr (.inl rfl))
  ents e he := ⟨(h.ents e he).1.keep hk fun k o hf hu => absurd (.inr (.inr ⟨e, he, hu⟩)) (hF k o hf), (h.ents e he).2⟩
  sorted := h.sorted
  apart := h.apart
  many := h.many
  leftOk := h.leftOk
theorem FsAt.below {w w' : World} {R : FsR} (h : FsAt w R) (hb : Below w.heap.size w w') : FsAt w' R := h.keep (F := fun _ _ => False) (.of_below hb) fun _ _ hf => hf.elim
theorem FsAt.drew {w : World} {R : FsR} (h : FsAt w R) : FsAt w.drew R := h.below ((Below.refl _ w).drew)
theorem FsAt.reads_lt {w : World} {R : FsR} (h : FsAt w R) : ∀ k o, Reads R k o → k < w.heap.size := by
  rintro k o (rfl | rfl | ⟨e, he, hu⟩)
  · exact h.pb_lt
  · exact h.mb_lt
  · exact (h.ents e he).1.lt k o hu
theorem Foot.reads {R : FsR} {k o : Nat} (h : Foot R k o) : Reads R k o := by
  rcases h with h | h | ⟨e, he, hs⟩
  · exact .inl h
  · exact .inr (.inl h)
  · exact .inr (.inr ⟨e, he, hs.used⟩)
theorem FsAt.pb_u8 {w : World} {R : FsR} (h : FsAt w R) {e : Ent} (he : EntOk w e) : ∀ o, ¬ Used e.v R.pb o := fun o hu => by
  obtain ⟨cur, hc⟩ := he.1.isU8 _ _ hu
  rw [h.own] at hc; injection hc with hc; injection hc with _ hc; exact absurd hc (by decide)
theorem FsAt.mb_u8 {w : World} {R : FsR} (h : FsAt w R) {e : Ent} (he : EntOk w e) : ∀ o, ¬ Used e.v R.mb o := fun o hu => by
  obtain ⟨cur, hc⟩ := he.1.isU8 _ _ hu
  obtain ⟨es, cl, hb, _⟩ := h.map
  rw [hc] at hb; cases hb
theorem FsAt.cell {w : World} {R : FsR} (h : FsAt w R) (i : Nat) : w.cell? ⟨R.pb, i, none⟩ = (fsCells R)[i]? := cell_of_row w R.pb i _ _ _ h.own
theorem FsAt.free {w : World} {R : FsR} (h : FsAt w R) (i : Nat) : w.frozen? ⟨R.pb, i, none⟩ = false := frozen_of_row w R.pb i _ _ h.own
/-- a field is written -/
theorem FsAt.set {w : World} {R R' : FsR} (h : FsAt w R) (i : Nat) (v : Value) (hpb : R'.pb = R.pb) (hmb : R'.mb = R.mb) (hes : R'.es = R.es) (hl : (R'.left : Int) ≤ 9223372036854775807) (hc : (fsCells R).setIfInBounds i v = fsCells R') : FsAt (w.setCell ⟨R.pb, i, none⟩ v) R' := by
  have hk : Keep (fun k _ => k = R.pb) w (w.setCell ⟨R.pb, i, none⟩ v) := .setCell w R.pb i _ _ v h.own rfl
  refine ⟨by rw [hpb, heap_setCell_same w R.pb i _ _ _ h.own, hc], by rw [hmb, hes]; exact ownsMap_keep h.map hk fun o ho => h.ne ho.symm, by rw [hes]; exact fun e he => ⟨(h.ents e he).1.keep hk fun k o hf hu => absurd hu (by subst hf; exact h.pb_u8 (h.ents e he) o), (h.ents e he).2⟩, by rw [hes]; exact h.sorted, by rw [hes]; exact h.apart, by rw [hes]; exact h.many, hl⟩
theorem FsAt.setKeep {w : World} {R : FsR} (h : FsAt w R) (i : Nat) (v : Value) : Keep (Foot R) w (w.setCell ⟨R.pb, i, none⟩ v) := .setCell w R.pb i _ _ v h.own (.inl rfl)
theorem strLaw : Keyed Try.prog 9 := string_keyed Try.underlying9
theorem zeroFile (w : World) : (zeroValue 46).run Try.prog w = .ok (.agg #[.slice none 0 0, .int .i64 0]) w := by kernel_rfl
def fileV : Option Ent → Value
  | some e => entV e
  | none => .agg #[.slice none 0 0, .int .i64 0]
theorem keyStr (s : ByteArray) (h : s.size ≤ maxLen) : keyOf Try.prog 9 (.string s) = some (.string s.data.toList) := Go.WideMaps.keyOf_string_mk Try.underlying9 h
/-- v, ok := files[name] -/
theorem FsAt.look {w : World} {R : FsR} (h : FsAt w R) (s : ByteArray) (hs : s.size ≤ maxLen) : (Instr.lookup 41 (.map (some R.mb)) (.string s) true).run Try.prog w = .ok (.tuple #[fileV (getE s.data.toList R.es), .bool (getE s.data.toList R.es).isSome]) w := by
  obtain ⟨v, ps, hr, hv⟩ := h.map.look_ok strLaw Try.underlying41 (zeroFile w) (zd := .held (.agg #[.slice none 0 0, .int .i64 0])) (zp := []) rfl (keyStr s hs)
  rw [hr, entD_has]
  rw [entD_at] at hv
  unfold heldE at hv
  injection hv with hv; injection hv with hv _
  cases hg : getE s.data.toList R.es with
  | none => rw [hg] at hv; injection hv with hv; subst hv; rfl
  | some e => rw [hg] at hv; injection hv with hv; subst hv; rfl
theorem FsAt.look1 {w : World} {R : FsR} (h : FsAt w R) (s : ByteArray) (hs : s.size ≤ maxLen) : (Instr.lookup 41 (.map (some R.mb)) (.string s) false).run Try.prog w = .ok (fileV (getE s.data.toList R.es)) w := by
  obtain ⟨v, ps, hr, hv⟩ := h.map.lookup strLaw Try.underlying41 (zeroFile w) (zd := .held (.agg #[.slice none 0 0, .int .i64 0])) (zp := []) rfl (keyStr s hs)
  rw [hr]
  rw [entD_at] at hv
  unfold heldE at hv
  injection hv with hv; injection hv with hv _
  cases hg : getE s.data.toList R.es with
  | none => rw [hg] at hv; injection hv with hv; subst hv; rfl
  | some e => rw [hg] at hv; injection hv with hv; subst hv; rfl
theorem tight {w : World} {b n : Nat} {es : List Ent} (h : w.ownsMap Try.prog 9 heldE b n (entD es)) : w.ownsMap Try.prog 9 heldE b es.length (entD es) := by
  obtain ⟨es', cl, hb, F, hs, hD⟩ := h
  refine ⟨es', cl, hb, F, ?_, hD⟩
  have := entD_size es
  rw [hD] at this
  simp only [Maps.size, length_sorted, List.length_map, Array.length_toList] at this
  omega
/-- files[name] = x, where x is a file's new value -/
theorem FsAt.put {w : World} {R : FsR} (h : FsAt w R) (s : ByteArray) (hs : s.size ≤ maxLen) (e : Ent) (hn : e.nm = s.data.toList) (he : EntOk w e) (hap : ∀ x ∈ R.es, x.nm ≠ e.nm → ApartE e x) (hm : (putE e R.es).length ≤ 64) :
    ∃ w', (Instr.mapUpdate 41 (.map (some R.mb)) (.string s) (entV e)).run Try.prog w = .ok () w' ∧ FsAt w' { R with es := putE e R.es } ∧ Keep (fun k _ => k = R.mb) w w' := by
  obtain ⟨w', hr, ho, ht⟩ := h.map.store strLaw Try.underlying41 (by have := h.many; unfold maxLen; omega) (keyStr s hs) (d := .held (entV e)) (ps := []) rfl
  have hk : Keep (fun k _ => k = R.mb) w w' := .map ht rfl
  rw [← hn, entD_put] at ho
  have hmem : ∀ x ∈ putE e R.es, EntOk w x := fun x hx => by
    rcases mem_putE.1 hx with rfl | ⟨hx, _⟩
    · exact he
    · exact h.ents x hx
  refine ⟨w', hr, ⟨(hk.block _ h.pb_lt fun o ho => h.ne ho).trans h.own, tight ho, fun x hx => ⟨(hmem x hx).1.keep hk fun k o hf hu => absurd hu (by subst hf; exact h.mb_u8 (hmem x hx) o), (hmem x hx).2⟩, sorted_put h.sorted, ?_, hm, h.leftOk⟩, hk⟩
  show (putE e R.es).Pairwise ApartE
  unfold putE
  have hd : (delE e.nm R.es).Pairwise ApartE := h.apart.filter _
  have hap' : ∀ x ∈ delE e.nm R.es, ApartE e x := fun x hx => hap x (mem_delE.1 hx).1 (mem_delE.1 hx).2
  generalize delE e.nm R.es = l at hd hap'
  induction l with
  | nil => simp [insE]
  | cons y r ih =>
    unfold insE
    split
    · exact List.pairwise_cons.2 ⟨hap', hd⟩
    · obtain ⟨h1, h2⟩ := List.pairwise_cons.1 hd
      refine List.pairwise_cons.2 ⟨fun q hq => ?_, ih h2 fun x hx => hap' x (List.mem_cons_of_mem _ hx)⟩
      rcases mem_insE.1 hq with rfl | hq
      · exact fun k o => ⟨(hap' y (by simp) k o).2, (hap' y (by simp) k o).1⟩
      · exact h1 q hq
/-- delete(files, name) -/
theorem FsAt.drop {w : World} {R : FsR} (h : FsAt w R) (s : ByteArray) (hs : s.size ≤ maxLen) (ty : TypeId) :
    ∃ w', (Builtin.delete_ #[41, 9] ty #[.map (some R.mb), .string s]).run Try.prog w = .ok (.tuple #[]) w' ∧ FsAt w' { R with es := delE s.data.toList R.es } ∧ Keep (fun k _ => k = R.mb) w w' := by
  obtain ⟨w', hr, ho, ht⟩ := h.map.drop strLaw Try.underlying41 (keyStr s hs) ty
  have hk : Keep (fun k _ => k = R.mb) w w' := .map ht rfl
  rw [entD_del] at ho
  have hmem : ∀ x ∈ delE s.data.toList R.es, EntOk w x := fun x hx => h.ents x (mem_delE.1 hx).1
  exact ⟨w', hr, ⟨(hk.block _ h.pb_lt fun o ho => h.ne ho).trans h.own, tight ho, fun x hx => ⟨(hmem x hx).1.keep hk fun k o hf hu => absurd hu (by subst hf; exact h.mb_u8 (hmem x hx) o), (hmem x hx).2⟩, sorted_del _ h.sorted, h.apart.filter _, Nat.le_trans (List.length_filter_le _ _) h.many, h.leftOk⟩, hk⟩
end Go.Proofs.Ytbnflhdioohfeaa

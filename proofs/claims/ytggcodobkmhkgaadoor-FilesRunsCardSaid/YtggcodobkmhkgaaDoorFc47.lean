/- Part 47 of the proof. -/
import Derived.Test.YtggcodobkmhkgaaDoorFc38
import Derived.Test.YtggcodobkmhkgaaDoorFc39
import Derived.Test.YtggcodobkmhkgaaDoorFc40
import Derived.Test.YtggcodobkmhkgaaDoorFc41
import Derived.Test.YtggcodobkmhkgaaDoorFc42
import Derived.Test.YtggcodobkmhkgaaDoorFc43
import Derived.Test.YtggcodobkmhkgaaDoorFc44
import Derived.Test.YtggcodobkmhkgaaDoorFc45
import Derived.Test.YtggcodobkmhkgaaDoorFc46
namespace Go.Proofs.YtggcodobkmhkgaaDoor
set_option linter.unusedVariables false
set_option linter.unusedSimpArgs false
open Go.RowKit Go.Maps Go.Proofs
set_option maxRecDepth 100000
theorem small_mod4 (n : Int) (m : Nat) (hm : 0 < m) (hm2 : m < 1000) : ∃ k : Nat, k < m ∧ wrap64 ((IntKind.u64.wrap n).tmod m) = (k : Int) := by
  have h0 : 0 ≤ IntKind.u64.wrap n := by
    unfold IntKind.wrap
    simp [IntKind.bits, IntKind.signed]
    omega
  have h1 : (IntKind.u64.wrap n).tmod m = IntKind.u64.wrap n % m := Int.tmod_eq_emod_of_nonneg h0
  have h2 := Int.emod_nonneg (IntKind.u64.wrap n) (show (m : Int) ≠ 0 by omega)
  have h3 := Int.emod_lt_of_pos (IntKind.u64.wrap n) (show (0 : Int) < m by omega)
  refine ⟨(IntKind.u64.wrap n % m).toNat, by omega, ?_⟩
  rw [h1]
  unfold wrap64; omega
theorem lstep_any (B : Nat) (R : FsR) (r : RSt) (lv : Value) (t : AT) (k : Nat) (w W : World) (ho : Own B w R) (hb : Below B W w) (hW : W.heap.size = B) (hg : ErrType W) (hL : FilesIn w lv r.L) (hrel : Rel4 (absR R) r) (hn : NumK r k) (hk : k ≤ 500) (ht : AOk W t) (hd : t.data.length ≤ 140737488351232) (hdk : t.keep.length ≤ 17592186043904) :
    Calls Tryd.prog 9 #[.pointer (some ⟨R.pb, 0, none⟩), rsV lv r, .agg t.cells.toArray] w (LStep R w k) := by
  obtain ⟨m, hm, he⟩ := small_mod4 t.kind 8 (by decide) (by decide)
  have he' : wrap64 ((IntKind.u64.wrap t.kind).tmod 8) = (m : Int) := he
  match m, hm with
  | 0, _ => exact lstep_0 B R r lv t k w W ho hb hW hg hL hrel hn hk ht hd hdk he'
  | 1, _ => exact lstep_1 B R r lv t k w W ho hb hW hg hL hrel hn hk ht hd hdk he'
  | 2, _ => exact lstep_2 B R r lv t k w W ho hb hW hg hL hrel hn hk ht hd hdk he'
  | 3, _ => exact lstep_3 B R r lv t k w W ho hb hW hg hL hrel hn hk ht hd hdk he'
  | 4, _ => exact lstep_4 B R r lv t k w W ho hb hW hg hL hrel hn hk ht hd hdk he'
  | 5, _ => exact lstep_5 B R r lv t k w W ho hb hW hg hL hrel hn hk ht hd hdk he'
  | 6, _ => exact lstep_6 B R r lv t k w W ho hb hW hg hL hrel hn hk ht hd hdk he'
  | 7, _ => exact lstep_7 B R r lv t k w W ho hb hW hg hL hrel hn hk ht hd hdk he'
end Go.Proofs.YtggcodobkmhkgaaDoor
namespace Go.Proofs.YtggcodobkmhkgaaDoor
set_option linter.unusedVariables false
set_option linter.unusedSimpArgs false
open Go.RowKit Go.Maps Go.Proofs
set_option maxRecDepth 100000
theorem srt_one {L : List RF} (h : Srt4 L) {f g : RF} (hf : f ∈ L) (hg : g ∈ L) (he : f.nm.data.toList = g.nm.data.toList) : f = g := by
  induction L with
  | nil => cases hf
  | cons y r ih =>
    obtain ⟨hy, hr⟩ := List.pairwise_cons.1 h
    rcases List.mem_cons.1 hf with e1 | hf'
    · rcases List.mem_cons.1 hg with e2 | hg'
      · rw [e1, e2]
      · have := hy g hg'; rw [← e1, he, bf_irrefl] at this; cases this
    · rcases List.mem_cons.1 hg with e2 | hg'
      · have := hy f hf'; rw [← e2, he, bf_irrefl] at this; cases this
      · exact ih hr hf' hg'
theorem same_get {st : St} {r : RSt} (h : Rel4 st r) (ho : StOk st) {f : RF} (hf : f ∈ r.L) :
    (r.down = false ∧ getN r f.nm = (f, 0) ∧ aFind st f.nm = (none, some (abs4 f))) ∨ (r.down = true ∧ getN r f.nm = (noRF, 13) ∧ aFind st f.nm = (some 13, none)) := by
  rcases rel_get h ho f.nm with ⟨h1, h2, h3, h4, h5, h6, h7⟩ | ⟨hx, h1, h2, h3, h6, h7⟩ | ⟨hx, h1, h2, h3⟩
  · have e := srt_one (h.srt ho) h4 hf h5
    rw [e] at h7
    exact .inl ⟨by rw [← h.down]; exact h3, Prod.ext e h1, h7⟩
  · exfalso
    unfold aget at h6
    rw [List.find?_eq_none, h.L] at h6
    exact h6 (abs4 f) (List.mem_map_of_mem hf) (by simp [abs4])
  · have hn := (h.size ho f hf).2
    rcases h1 with ⟨_, hb⟩ | ⟨h1, _, hd⟩
    · rw [hn] at hb; cases hb
    · rw [h1] at h2
      exact .inr ⟨by rw [← h.down]; exact hd, Prod.ext hx h1, h2⟩
theorem own0 {w : World} {R : FsR} (h : FsAt w R) : OwnP 0 w R.pb (absR R) := ⟨R, ⟨h, fun _ _ _ => Nat.zero_le _, Nat.zero_le _⟩, rfl, rfl⟩
theorem str_eta (s : ByteArray) : (⟨s.data.toList.toArray⟩ : ByteArray) = s := by apply ByteArray.ext; simp
/-- the names, as List lays them -/
theorem names_row {w : World} {g B n c : Nat} {L : List RF} {st : St} {a : Option Addr} (hL : st.L = L.map abs4) (h : w.ownsRow B 9 1 (.slice a n c) st.L.length (st.L.map fun f => encStr f.nm)) :
    n = L.length ∧ ∀ (i : Nat) (f : RF), L[i]? = some f → ∃ (g : Nat) (cur : Array Value), a = some ⟨g, 0, none⟩ ∧ w.heap[g]? = some (.cells cur 9 (0, 0)) ∧ cur[i]? = some (.string f.nm) := by
  have hl : st.L.length = L.length := by rw [hL, List.length_map]
  have h' := h
  rcases h.2 with ⟨e, h0⟩ | ⟨g, cap, cur, e, hg, hh, _⟩
  · injection e with e1 e2 e3
    refine ⟨by omega, fun i f hi => ?_⟩
    have := (List.getElem?_eq_some_iff.1 hi).1
    omega
  · injection e with e1 e2 e3
    refine ⟨by rw [e2, hl], fun i f hi => ⟨g, cur, e1, hh, ?_⟩⟩
    subst e1
    have := h'.cells (g := g) rfl i (.string f.nm) (by rw [hL, List.map_map, List.getElem?_map, hi]; show some (encStr f.nm.data.toList) = _; unfold encStr; rw [str_eta])
    rw [Addr.add_mid, Nat.zero_add, cell_of_row _ _ _ _ _ _ hh] at this
    exact this
/-- what Read answers of a file that is there -/
theorem read_lens (f : RF) : (afXs (some (abs4 f))).length = f.sf.size + f.ls.size := by show (numsOf (f.sf ++ f.ls)).length = _; rw [nums_size, cat_size]
theorem read_str (f : RF) : strOfNums (afXs (some (abs4 f))) = f.sf ++ f.ls := str_numsOf _
/-- while same goes on: one's own box, files and names -/
structure SmM (w w' : World) (R : FsR) (q : Nat) (C : Array Value) (lv : Value) (L : List RF) (la : Option Addr) : Prop where
  below : Below w.heap.size w w'
  fs : FsAt w' R
  box : w'.heap[q]? = some (.cells C 27 (0, 0))
  fl : FilesIn w' lv L
  names : ∀ (i : Nat) (f : RF), L[i]? = some f → ∃ (g : Nat) (cur : Array Value), la = some ⟨g, 0, none⟩ ∧ w'.heap[g]? = some (.cells cur 9 (0, 0)) ∧ cur[i]? = some (.string f.nm)
theorem SmM.call {w w' w2 : World} {R : FsR} {q : Nat} {C : Array Value} {lv : Value} {L : List RF} {la : Option Addr} (m : SmM w w' R q C lv L la) (h : Below w'.heap.size w' w2) : SmM w w2 R q C lv L la :=
  ⟨m.below.trans (h.mono m.below.size), m.fs.below h, (h.block _ (Array.getElem?_eq_some_iff.1 m.box).1).trans m.box, m.fl.below h, fun i f hi => by
    obtain ⟨g, cur, e, hg, hc⟩ := m.names i f hi
    exact ⟨g, cur, e, (h.block g (Array.getElem?_eq_some_iff.1 hg).1).trans hg, hc⟩⟩
theorem SmM.mine {w w' : World} {R : FsR} {q : Nat} {C : Array Value} {lv : Value} {L : List RF} {la : Option Addr} (m : SmM w w' R q C lv L la) {g : Nat} {cur : Array Value} (hg : w'.heap[g]? = some (.cells cur 5 (0, 0))) (hlo : w.heap.size ≤ g) (hfar : ∀ o, ¬ Reads R g o) (i : Nat) (v : Value) :
    SmM w (w'.setCell ⟨g, i, none⟩ v) R q C lv L la := by
  have hk : Keep (fun k _ => k = g) w' (w'.setCell ⟨g, i, none⟩ v) := .setCell w' g i _ _ v hg rfl
  have ht : KeepT w' (w'.setCell ⟨g, i, none⟩ v) := fun b cs T hb h1 h2 => (heap_setCell_other _ _ _ _ (fun e => by
    subst e
    rw [hg] at hb
    injection hb with hb
    injection hb with _ hb
    exact h2 hb.symm)).trans hb
  exact ⟨m.below.setCell hlo _, m.fs.keep hk fun k o e => by rw [e]; exact hfar o, ht _ _ _ m.box (by decide) (by decide), m.fl.keepT ht, fun i f hi => by
    obtain ⟨k, cur, e, hk, hc⟩ := m.names i f hi
    exact ⟨k, cur, e, ht _ _ _ hk (by decide) (by decide), hc⟩⟩
/-- what region 2 and the loads want -/
def smS (w : World) (q : Nat) (x : Value) (st : Int) (dn : Bool) : Prop := w.cell? ⟨q, 0, none⟩ = some x ∧ w.cell? ⟨q, 1, none⟩ = some (.int .i64 st) ∧ w.cell? ⟨q, 4, none⟩ = some (.bool dn)
theorem smS_of {w w' : World} {R : FsR} {q : Nat} {x : Value} {st lf : Int} {ar dn : Bool} {lv : Value} {L : List RF} {la : Option Addr} (m : SmM w w' R q #[x, .int .i64 st, .bool ar, .int .i64 lf, .bool dn] lv L la) : smS w' q x st dn :=
  ⟨by rw [cell_of_row w' q 0 _ _ _ m.box]; rfl, by rw [cell_of_row w' q 1 _ _ _ m.box]; rfl, by rw [cell_of_row w' q 4 _ _ _ m.box]; rfl⟩
/-- what regions 9 and 10 want -/
def smR (w : World) (q : Nat) (C : Array Value) (lg j fg : Nat) (s : ByteArray) : Prop := w.heap[q]? = some (.cells C 27 (0, 0)) ∧ w.cell? ⟨lg, j, none⟩ = some (.string s) ∧ w.cell? ⟨fg, j * 3, none⟩ = some (.string s)
theorem smR_of {w w' : World} {R : FsR} {q : Nat} {C : Array Value} {n c j fg lg : Nat} {f : RF} {L : List RF} (m : SmM w w' R q C (.slice (some ⟨fg, 0, none⟩) n c) L (some ⟨lg, 0, none⟩)) (hj : L[j]? = some f) : smR w' q C lg j fg f.nm := by
  refine ⟨m.box, ?_, ?_⟩
  · obtain ⟨g, cur, e, hg, hc⟩ := m.names j f hj
    injection e with e; injection e with e; subst e
    rw [cell_of_row _ _ _ _ _ _ hg]; exact hc
  · obtain ⟨_, _, e, _, _, h3⟩ := m.fl.lies
    rcases h3 with ⟨rfl, _⟩ | ⟨g, e2, _, hr⟩
    · cases hj
    · injection e with e1 _ _; rw [← e1] at e2; injection e2 with e2; injection e2 with e2; subst e2
      have := hr j f hj 0 (.string f.nm) rfl
      rwa [Nat.add_zero] at this
/-- a file of the reference lies in its slice -/
theorem fl_at {w : World} {a : Option Addr} {n c : Nat} {L : List RF} (h : FilesIn w (.slice a n c) L) {i : Nat} {f : RF} (hi : L[i]? = some f) : n = L.length ∧ ∃ g, a = some ⟨g, 0, none⟩ ∧ w.cell? ⟨g, i * 3, none⟩ = some (.string f.nm) := by
  obtain ⟨a', cap, e, h1, h2, h3⟩ := h.lies
  injection e with e1 e2 e3
  subst e1 e2 e3
  refine ⟨rfl, ?_⟩
  rcases h3 with ⟨rfl, _⟩ | ⟨g, rfl, _, hr⟩
  · cases hi
  · exact ⟨g, rfl, by have := hr i f hi 0 (.string f.nm) rfl; rwa [Nat.add_zero] at this⟩
/-- the bytes that Read has laid -/
structure OwnB (lo : Nat) (w : World) (R : FsR) (a : Option Addr) (c : Nat) (xs : List Int) : Prop where
  bytes : BytesIn w (.slice a xs.length c) xs
  mine : Mine lo w R a xs.length
theorem OwnB.of {lo B : Nat} {w0 w : World} {R : FsR} {a : Option Addr} {c : Nat} {xs : List Int} (h : w.ownsRow B 5 1 (.slice a xs.length c) xs.length (byteVals xs)) (hl : xs.length ≤ 16777216) (hr : FsAt w0 R) (hB : w0.heap.size ≤ B) (hlo : lo ≤ B) : OwnB lo w R a c xs := by
  refine ⟨owns_in h (by unfold maxLen; omega), ?_⟩
  exact (Mine.of h (fun k o hk => Nat.lt_of_lt_of_le (hr.reads_lt k o hk) hB)).imp id fun ⟨g, cur, e, h1, r⟩ => ⟨g, cur, e, Nat.le_trans hlo h1, r⟩
theorem OwnB.call {lo : Nat} {w w' : World} {R : FsR} {a : Option Addr} {c : Nat} {xs : List Int} (h : OwnB lo w R a c xs) (hb : Below w.heap.size w w') : OwnB lo w' R a c xs := ⟨h.bytes.below hb, h.mine.below hb⟩
end Go.Proofs.YtggcodobkmhkgaaDoor

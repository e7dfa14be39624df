/- Part 51 of the proof. -/
import Derived.Test.YtggcodobkmhkgaaDoorFc19
import Derived.Test.YtggcodobkmhkgaaDoorFc47
import Derived.Test.YtggcodobkmhkgaaDoorFc48
import Derived.Test.YtggcodobkmhkgaaDoorFc50
namespace Go.Proofs.YtggcodobkmhkgaaDoor
set_option linter.unusedVariables false
set_option linter.unusedSimpArgs false
open Go.RowKit Go.Maps Go.Proofs
set_option maxRecDepth 100000
structure LawM (W w : World) (R : FsR) (q : Nat) (C : Array Value) (a : Option Addr) (n c : Nat) (r : RSt) (k : Nat) : Prop where
  below : Below W.heap.size W w
  own : Own W.heap.size w R
  box : w.heap[q]? = some (.cells C 27 (0, 0))
  qge : W.heap.size ≤ q
  fl : FilesIn w (.slice a n c) r.L
  rel : Rel4 (absR R) r
  num : NumK r k
section
variable {W w w' : World} {R : FsR} {q : Nat} {C : Array Value} {a : Option Addr} {n c : Nat} {r : RSt} {k : Nat}
theorem LawM.call (m : LawM W w R q C a n c r k) (h : Below w.heap.size w w') : LawM W w' R q C a n c r k :=
  ⟨m.below.trans (h.mono m.below.size), m.own.below h, (h.block _ (Array.getElem?_eq_some_iff.1 m.box).1).trans m.box, m.qge, m.fl.below h, m.rel, m.num⟩
theorem LawM.mono {k' : Nat} (m : LawM W w R q C a n c r k) (h : k ≤ k') : LawM W w R q C a n c r k' := { m with num := m.num.mono h }
/-- the calls of step that may come -/
theorem LawM.lstep (m : LawM W w R q C a n c r k) (hg : ErrType W) (hk : k ≤ 500) (t : AT) (ht : AOk W t) (hd : t.data.length ≤ 140737488351232) (hdk : t.keep.length ≤ 17592186043904) :
    Calls Tryd.prog 9 #[.pointer (some ⟨R.pb, 0, none⟩), .agg #[.slice a n c, .int .i64 r.steps, .bool r.armed, .int .i64 r.left, .bool r.down], .agg t.cells.toArray] w fun e w' =>
      ∃ R' a' n' c' r', e = .returned (.tuple #[.agg #[.slice a' n' c', .int .i64 r'.steps, .bool r'.armed, .int .i64 r'.left, .bool r'.down], .bool true]) ∧ R'.pb = R.pb ∧ StepTo R R' w w' ∧ LawM W w' R' q C a' n' c' r' (k + 1) :=
  (lstep_any W.heap.size R r (.slice a n c) t k w W m.own m.below rfl hg m.fl m.rel m.num hk ht hd hdk).mono fun e w' ⟨R', r', lv', he, hs, hf, hr, hn⟩ => by
    obtain ⟨a', n', c', rfl⟩ := FilesIn.wide hf
    exact ⟨R', a', n', c', r', he, hs.pb, hs, m.below.trans (m.own.step hs).2, (m.own.step hs).1, (hs.typed m.own.fs) _ _ _ m.box (by decide) (by decide), m.qge, hf, hr, hn⟩
theorem own_row {B g : Nat} {C' : Array Value} (h : Own B w R) (hg : w.heap[g]? = some (.cells C 27 (0, 0))) (hz : C'.size = C.size) : Own B (w.setRow g C') R := by
  have hk : Keep (fun k _ => k = g) w (w.setRow g C') :=
    ⟨rfl, rfl, rfl, by simp [World.setRow], fun k hk hf => setRow_other _ _ _ _ (fun e => hf 0 e), fun k cur T hc => by
      by_cases e : k = g
      · subst e
        rw [hg] at hc
        injection hc with hc
        injection hc with h1 h2
        subst h1 h2
        exact ⟨C', setRow_heap _ _ _ _ _ _ hg, hz, fun o ho => absurd rfl ho⟩
      · exact ⟨cur, (setRow_other _ _ _ _ e).trans hc, rfl, fun _ _ => rfl⟩⟩
  exact ⟨h.fs.keep hk fun k o e => by rw [e]; exact h.fs.typed hg (by decide) (by decide) o, h.reads, Nat.le_trans h.le hk.size⟩
theorem fs_row {g : Nat} {C' : Array Value} (h : FsAt w R) (hg : w.heap[g]? = some (.cells C 27 (0, 0))) (hz : C'.size = C.size) : FsAt (w.setRow g C') R :=
  (own_row (B := 0) ⟨h, fun _ _ _ => Nat.zero_le _, Nat.zero_le _⟩ hg hz).fs
/-- the law's own variable takes the new value -/
theorem LawM.set {C' : Array Value} (m : LawM W w R q C a n c r k) (hz : C'.size = C.size) : LawM W (w.setRow q C') R q C' a n c r k :=
  ⟨below_setRow m.below m.qge _, own_row m.own m.box hz, setRow_heap _ _ _ _ _ _ m.box, m.qge, FilesIn.setRow m.fl m.box, m.rel, m.num⟩
/-- another variable of the law's own -/
theorem LawM.other {g : Nat} {D D' : Array Value} (m : LawM W w R q C a n c r k) (hg : w.heap[g]? = some (.cells D 27 (0, 0))) (hge : W.heap.size ≤ g) (hne : q ≠ g) (hz : D'.size = D.size) : LawM W (w.setRow g D') R q C a n c r k :=
  ⟨below_setRow m.below hge _, own_row m.own hg hz, (setRow_other _ _ _ _ hne).trans m.box, m.qge, FilesIn.setRow m.fl hg, m.rel, m.num⟩
/-- same, of the law's own -/
theorem LawM.same (m : LawM W w R q C a n c r k) (hg : ErrType W) (hk : k ≤ 500) :
    Calls Tryd.prog 10 #[.pointer (some ⟨R.pb, 0, none⟩), .agg #[.slice a n c, .int .i64 r.steps, .bool r.armed, .int .i64 r.left, .bool r.down]] w fun e w' => e = .returned (.bool true) ∧ Below w.heap.size w w' :=
  lsame_any R r (.slice a n c) w m.own.fs m.fl m.rel (hg.below m.below) (m.num.ok (by omega))
end
/-- what the loads of a step want -/
def lawS (w : World) (q : Nat) (C : Array Value) (b o : Nat) (t : AT) : Prop := w.heap[q]? = some (.cells C 27 (0, 0)) ∧ w.rangeAt b o t.cells
theorem lawS_of {W w : World} {R : FsR} {q : Nat} {C : Array Value} {a : Option Addr} {n c k b o : Nat} {r : RSt} {t : AT} (m : LawM W w R q C a n c r k) (h : ActAt W b o t) : lawS w q C b o t :=
  ⟨m.box, fun j v hv => (m.below.cell (p := ⟨b, o + j, none⟩) (World.block_lt_of_cell? W _ (h.cells j v hv))).trans (h.cells j v hv)⟩
theorem acts_at {W : World} {ts : List AT} {la : Option Addr} (h : ts = [] ∨ ∃ b off, la = some ⟨b, off, none⟩ ∧ b < W.heap.size ∧ ∀ i t, ts[i]? = some t → ActAt W b (off + i * 6) t) {i : Nat} {t : AT} (hi : ts[i]? = some t) : ∃ b off, la = some ⟨b, off, none⟩ ∧ ActAt W b (off + i * 6) t := by
  rcases h with rfl | ⟨b, off, e, _, hh⟩
  · cases hi
  · exact ⟨b, off, e, hh i t hi⟩
theorem act_yields {ops : Array Oper} {S : World → Prop} {op : Oper} {a : Act} (hw : Region.wanted op (yielded ops a.tmps) = true) (x : Operand) (ho : op.op = .load 33 x)
    (b o : Nat) (hx : a.eval x = .pointer (some ⟨b, o, none⟩)) (t : AT) (d : TypeDesc) (hS : ∀ w, S w → w.rangeAt b o t.cells) (hu : Tryd.prog.underlying 33 = some d := by exact Tryd.underlying33) (hd : d.isRow = true := by rfl) : YieldsIf Tryd.prog ops S op (.agg t.cells.toArray) a := by
  have h := yieldsIf_load_mid (P := Tryd.prog) (S := S) hw 33 x ho b o hx t.cells d hS hu hd (by rw [AT.cells_length]; kernel_rfl)
  simpa using h
/-- what one file system turns the other does not read -/
def Disj (R Q : FsR) : Prop := ∀ k o, Foot R k o → ¬ Reads Q k o
theorem Disj.step {R R' Q : FsR} {w w' : World} (h : Disj R Q) (hq : FsAt w Q) (s : StepTo R R' w w') : FsAt w' Q ∧ Disj R' Q := by
  refine ⟨hq.keep s.keep h, fun k o hf hr => ?_⟩
  have hlt := hq.reads_lt k o hr
  exact h k o (s.foot k o hlt hf) hr
theorem pair_nm {es : List Ent} (h : SortedE es) {x y : Ent} (hx : x ∈ es) (hy : y ∈ es) (he : x.nm = y.nm) : x = y := by
  induction es with
  | nil => cases hx
  | cons z r ih =>
    obtain ⟨hz, hr⟩ := List.pairwise_cons.1 h
    rcases List.mem_cons.1 hx with e1 | hx'
    · rcases List.mem_cons.1 hy with e2 | hy'
      · rw [e1, e2]
      · have := hz y hy'; rw [← e1, he, bf_irrefl] at this; cases this
    · rcases List.mem_cons.1 hy with e2 | hy'
      · have := hz x hx'; rw [← e2, he, bf_irrefl] at this; cases this
      · exact ih hr hx' hy'
theorem clone_disj {w : World} {R : FsR} {q m : Nat} {left : Lit → Bool} (H : FsAt w R) (hq : w.heap.size ≤ q) (hm : w.heap.size ≤ m) : Disj (cloneR q m R left) R ∧ Disj R (cloneR q m R left) := by
  constructor
  · intro k o hf hr
    have := H.reads_lt k o hr
    rcases clone_foot hf with rfl | rfl <;> omega
  · intro k o hf hr
    have hlt := H.reads_lt k o hf.reads
    rcases hr with h | h | ⟨e, he, hu⟩
    · have : k = q := h; omega
    · have : k = m := h; omega
    · obtain ⟨x, hx, rfl⟩ := List.mem_map.1 he
      have hxm : x ∈ R.es := (List.mem_filter.1 hx).1
      have hux : Used x.v k o := first_used (H.ents x hxm).1 (Nat.le_refl _) hu
      rcases hf with rfl | rfl | ⟨y, hy, hs⟩
      · exact H.pb_u8 (H.ents x hxm) o hux
      · exact H.mb_u8 (H.ents x hxm) o hux
      · by_cases hxy : x = y
        · subst hxy
          obtain ⟨a1, n1, c1, e1, rfl, h1, h2⟩ := hs
          obtain ⟨a2, n2, c2, e2, _, h3⟩ := hu
          have hl : n1 = x.xs.length := by obtain ⟨a', c', e'⟩ := (H.ents x hxm).1.len; rw [e1] at e'; injection e'
          have e2' : firstV x.v x.xs.length = .slice (some a2) n2 c2 := e2
          rw [e1] at e2'
          injection e2' with _ _ e3
          omega
        · have hne : y.nm ≠ x.nm := fun e => hxy (pair_nm H.sorted hxm hy e.symm)
          exact (pair_mem H.apart hy hxm hne k o).1 hs hux
end Go.Proofs.YtggcodobkmhkgaaDoor
namespace Go.Proofs.YtggcodobkmhkgaaDoor
set_option linter.unusedVariables false
set_option linter.unusedSimpArgs false
open Go.RowKit Go.Maps Go.Proofs
set_option maxRecDepth 100000
theorem LawM.clone {W w : World} {R : FsR} {q : Nat} {C : Array Value} {a : Option Addr} {n c : Nat} {r : RSt} {k : Nat} (m : LawM W w R q C a n c r k) :
    Calls Tryd.prog 11 #[.pointer (some ⟨R.pb, 0, none⟩)] w fun e w' => ∃ pc Rc, e = .returned (.pointer (some ⟨pc, 0, none⟩)) ∧ Rc.pb = pc ∧ Own W.heap.size w' Rc ∧ absR Rc = absR R ∧ Disj Rc R ∧ Disj R Rc ∧ Below w.heap.size w w' :=
  (clone4_any R w m.own.fs).mono fun e w' ⟨q', m', he, hq, hm, hf, hb⟩ => by
    have hd := clone_disj (left := fun _ => false) m.own.fs hq hm
    refine ⟨q', _, he, rfl, ⟨hf, fun k o hr => ?_, Nat.le_trans m.own.le hb.size⟩, clone_abs (fun _ => rfl), hd.1, hd.2, hb⟩
    rcases clone_reads (fun e he => (m.own.fs.ents e he).1) hr with h | h | h
    · rw [h]; exact Nat.le_trans m.own.le hq
    · rw [h]; exact Nat.le_trans m.own.le hm
    · exact m.own.reads k o h
theorem LawM.twin {W w : World} {R Rc : FsR} {q : Nat} {C : Array Value} {a : Option Addr} {n c : Nat} {r : RSt} {k : Nat} (m : LawM W w R q C a n c r k) (ho : Own W.heap.size w Rc) (ha : absR Rc = absR R) : LawM W w Rc q C a n c r k :=
  ⟨m.below, ho, m.box, m.qge, m.fl, by rw [ha]; exact m.rel, m.num⟩
/-- another file system takes a step -/
theorem LawM.aside {W w w' : World} {R R1 Rc : FsR} {q : Nat} {C : Array Value} {a : Option Addr} {n c : Nat} {r : RSt} {k : Nat} (m : LawM W w Rc q C a n c r k) (ho : Own W.heap.size w R) (hd : Disj R Rc) (s : StepTo R R1 w w') : LawM W w' Rc q C a n c r k ∧ Own W.heap.size w' R1 ∧ Disj R1 Rc := by
  have h1 := hd.step m.own.fs s
  have hk := s.typed ho.fs
  exact ⟨⟨m.below.trans (ho.step s).2, ⟨h1.1, m.own.reads, Nat.le_trans m.own.le s.keep.size⟩, hk _ _ _ m.box (by decide) (by decide), m.qge, m.fl.keepT hk, m.rel, m.num⟩, (ho.step s).1, h1.2⟩
structure CloM (W w : World) (R Rc : FsR) (q g : Nat) (a : Option Addr) (n c : Nat) (r : RSt) (k : Nat) (C2 : Array Value) (a2 : Option Addr) (n2 c2 : Nat) (s : RSt) (k2 : Nat) : Prop where
  f : LawM W w R q #[.slice a n c, .int .i64 r.steps, .bool r.armed, .int .i64 r.left, .bool r.down] a n c r k
  c : LawM W w Rc g C2 a2 n2 c2 s k2
  dj : Disj Rc R
  ne : q ≠ g
section
variable {W w w' : World} {R Rc : FsR} {q g : Nat} {a : Option Addr} {n c : Nat} {r : RSt} {k : Nat} {C2 : Array Value} {a2 : Option Addr} {n2 c2 : Nat} {s : RSt} {k2 : Nat}
theorem CloM.call (m : CloM W w R Rc q g a n c r k C2 a2 n2 c2 s k2) (h : Below w.heap.size w w') : CloM W w' R Rc q g a n c r k C2 a2 n2 c2 s k2 := ⟨m.f.call h, m.c.call h, m.dj, m.ne⟩
theorem CloM.set {C' : Array Value} (m : CloM W w R Rc q g a n c r k C2 a2 n2 c2 s k2) (hz : C'.size = C2.size) : CloM W (w.setRow g C') R Rc q g a n c r k C' a2 n2 c2 s k2 :=
  ⟨m.f.other m.c.box m.c.qge m.ne hz, m.c.set hz, m.dj, m.ne⟩
theorem CloM.other {h : Nat} {D D' : Array Value} (m : CloM W w R Rc q g a n c r k C2 a2 n2 c2 s k2) (hh : w.heap[h]? = some (.cells D 27 (0, 0))) (hge : W.heap.size ≤ h) (h1 : q ≠ h) (h2 : g ≠ h) (hz : D'.size = D.size) : CloM W (w.setRow h D') R Rc q g a n c r k C2 a2 n2 c2 s k2 :=
  ⟨m.f.other hh hge h1 hz, m.c.other hh hge h2 hz, m.dj, m.ne⟩
theorem CloM.lstep (m : CloM W w R Rc q g a n c r k C2 a2 n2 c2 s k2) (hg : ErrType W) (hk : k2 ≤ 500) (t : AT) (ht : AOk W t) (hd : t.data.length ≤ 140737488351232) (hdk : t.keep.length ≤ 17592186043904) :
    Calls Tryd.prog 9 #[.pointer (some ⟨Rc.pb, 0, none⟩), .agg #[.slice a2 n2 c2, .int .i64 s.steps, .bool s.armed, .int .i64 s.left, .bool s.down], .agg t.cells.toArray] w fun e w' =>
      ∃ R' a3 n3 c3 s', e = .returned (.tuple #[.agg #[.slice a3 n3 c3, .int .i64 s'.steps, .bool s'.armed, .int .i64 s'.left, .bool s'.down], .bool true]) ∧ R'.pb = Rc.pb ∧ KeepT w w' ∧ w.heap.size ≤ w'.heap.size ∧ CloM W w' R R' q g a n c r k C2 a3 n3 c3 s' (k2 + 1) :=
  (m.c.lstep hg hk t ht hd hdk).mono fun e w' ⟨R', a3, n3, c3, s', he, hp, hs, hm⟩ => by
    have hk := hs.typed m.c.own.fs
    have hd := m.dj.step m.f.own.fs hs
    exact ⟨R', a3, n3, c3, s', he, hp, hk, hs.keep.size, ⟨hm.below, ⟨hd.1, m.f.own.reads, Nat.le_trans m.f.own.le hs.keep.size⟩, hk _ _ _ m.f.box (by decide) (by decide), m.f.qge, m.f.fl.keepT hk, m.f.rel, m.f.num⟩, hm, hd.2, m.ne⟩
/-- the clone, once its variable is laid -/
theorem CloM.start (m : LawM W w R q #[.slice a n c, .int .i64 r.steps, .bool r.armed, .int .i64 r.left, .bool r.down] a n c r k) (hc : Own W.heap.size w Rc) (ha : absR Rc = absR R) (hd : Disj Rc R) {D : Array Value} (hg : w.heap[g]? = some (.cells D 27 (0, 0))) (hge : W.heap.size ≤ g) (hne : q ≠ g) (hz : D.size = 5) :
    CloM W (w.setRow g #[.slice a n c, .int .i64 r.steps, .bool r.armed, .int .i64 r.left, .bool r.down]) R Rc q g a n c r k #[.slice a n c, .int .i64 r.steps, .bool r.armed, .int .i64 r.left, .bool r.down] a n c r k :=
  ⟨m.other hg hge hne (by rw [hz]; rfl), ⟨below_setRow m.below hge _, own_row hc hg (by rw [hz]; rfl), setRow_heap _ _ _ _ _ _ hg, hge, FilesIn.setRow m.fl hg, by rw [ha]; exact m.rel, m.num⟩, hd, hne⟩
theorem cloS_of {b o : Nat} {t : AT} (m : CloM W w R Rc q g a n c r k C2 a2 n2 c2 s k2) (h : ActAt W b o t) : lawS w g C2 b o t := lawS_of m.c h
end
end Go.Proofs.YtggcodobkmhkgaaDoor

/- Part 11 of the proof. -/
import Derived.Shelf.Abstract
import Derived.Test.YtggcodobkmhkgaaDoorFc10
namespace Go.Proofs.YtggcodobkmhkgaaDoor
set_option linter.unusedVariables false
set_option linter.unusedSimpArgs false
open Go.RowKit Go.Maps
set_option maxRecDepth 100000
/-- what Append answers ahead of its step -/
def apE (R : FsR) (s : ByteArray) (m : Nat) : Option Nat :=
  match checkE R.down [s] with
  | some n => some n
  | none => if getE s.data.toList R.es = none ∧ 64 ≤ R.es.length then some 10 else if 16777216 < (fileXs (getE s.data.toList R.es)).length + m then some 2 else none
theorem chk_at (R : FsR) (w : World) (H : FsAt w R) (s : ByteArray) (hs : s.size ≤ maxLen) (w1 : World) (hb : Below w.heap.size w w1) (T : TypeId) (k : Nat) (hk : k = w1.heap.size) :
    Calls Tryd.prog 49 #[.pointer (some ⟨R.pb, 0, none⟩), .slice (some ⟨k, 0, none⟩) 1 1] (w1.alloc (.cells #[.string s] T)) fun e w' => e = .returned (errV (checkE R.down [s])) ∧ w1.alloc (.cells #[.string s] T) = w' := by
  subst hk
  exact check_any R _ (H.below (Below.alloc0 hb _)) _ 1 1 [s] rfl (by simp) names1 (by simpa using hs)
theorem below1 (w : World) (a : Obj) : Below w.heap.size w (w.alloc a) := Below.alloc0 (Below.refl _ _) _
theorem below2 (w : World) (a b : Obj) : Below w.heap.size w ((w.alloc a).alloc b) := Below.alloc0 (below1 _ _) _
theorem below3 (w : World) (a b c : Obj) : Below w.heap.size w (((w.alloc a).alloc b).alloc c) := Below.alloc0 (below2 _ _ _) _
theorem below4 (w : World) (a b c d : Obj) : Below w.heap.size w ((((w.alloc a).alloc b).alloc c).alloc d) := Below.alloc0 (below3 _ _ _ _) _
theorem below5 (w : World) (a b c d e : Obj) : Below w.heap.size w (((((w.alloc a).alloc b).alloc c).alloc d).alloc e) := Below.alloc0 (below4 _ _ _ _ _) _
set_option maxHeartbeats 2000000 in
theorem append_chk (R : FsR) (w : World) (H : FsAt w R) (s : ByteArray) (hs : s.size ≤ maxLen) (a0 : Option Addr) (ny cy : Nat) (n : Nat) (hc : checkE R.down [s] = some n) :
    Calls Tryd.prog 13 #[.pointer (some ⟨R.pb, 0, none⟩), .string s, .slice a0 ny cy] w fun e w' => e = .returned (.iface 117 (.int .i64 n)) ∧ Below w.heap.size w w' := by
  have hk : ∀ T1 T2 T3 T4 c1 c2 c3, Calls Tryd.prog 49 #[.pointer (some ⟨R.pb, 0, none⟩), .slice (some ⟨w.heap.size + 1 + 1 + 1, 0, none⟩) 1 1] ((((w.alloc (.cells c1 T1)).alloc (.cells c2 T2)).alloc (.cells c3 T3)).alloc (.cells #[.string s] T4)) (fun e w' => e = .returned (.iface 117 (.int .i64 n)) ∧ (((w.alloc (.cells c1 T1)).alloc (.cells c2 T2)).alloc (.cells c3 T3)).alloc (.cells #[.string s] T4) = w') := fun T1 T2 T3 T4 c1 c2 c3 => by
    have := chk_at R w H s hs (((w.alloc (.cells c1 T1)).alloc (.cells c2 T2)).alloc (.cells c3 T3)) (below3 _ _ _ _) T4 (w.heap.size + 1 + 1 + 1) (by simp)
    rw [hc] at this
    exact this
  have HK := Lib.hid hk
  have hpb := H.pb_lt
  clear hk H hs hc
  go_enter Tryd.func13, Tryd.ntmps13
  go_wp2_with (go_at_call 49; (with_reducible refine (HK.out _ _ _ _ _ _ _).mono ?_); rintro e w' ⟨rfl, rfl⟩)
  go_ret
  exact ⟨rfl, below4 _ _ _ _ _⟩
theorem fileV_shape (w : World) (R : FsR) (H : FsAt w R) (n : List UInt8) : ∃ a c, fileV (getE n R.es) = .agg #[.slice a (fileXs (getE n R.es)).length c, .int .i64 (fileSafe (getE n R.es))] := by
  cases hg : getE n R.es with
  | none => exact ⟨none, 0, rfl⟩
  | some e =>
    obtain ⟨a, c, hv⟩ := (H.ents e (getE_some hg).1).1.len
    exact ⟨a, c, by show entV e = _; unfold entV; rw [hv]; rfl⟩
/-- the world in which Append looks a file up -/
def apW (w : World) (R : FsR) (s : ByteArray) (y : Value) : World := (((w.alloc (.cells #[.pointer (some ⟨R.pb, 0, none⟩)] 23)).alloc (.cells #[.string s] 9)).alloc (.cells #[y] 30)).alloc (.cells #[.string s] 9)
theorem apW_below (w : World) (R : FsR) (s : ByteArray) (y : Value) : Below w.heap.size w (apW w R s y) := below4 _ _ _ _ _
theorem apW_size (w : World) (R : FsR) (s : ByteArray) (y : Value) : (apW w R s y).heap.size = w.heap.size + 1 + 1 + 1 + 1 := by simp [apW]
theorem apW_blocks (w : World) (R : FsR) (s : ByteArray) (y : Value) : (apW w R s y).heap[w.heap.size]? = some (.cells #[.pointer (some ⟨R.pb, 0, none⟩)] 23 (0, 0)) ∧ (apW w R s y).heap[w.heap.size + 1]? = some (.cells #[.string s] 9 (0, 0)) ∧ (apW w R s y).heap[w.heap.size + 1 + 1]? = some (.cells #[y] 30 (0, 0)) := by
  have h1 := heap_alloc_new w (.cells #[.pointer (some ⟨R.pb, 0, none⟩)] 23)
  have h2 := heap_alloc_new (w.alloc (.cells #[.pointer (some ⟨R.pb, 0, none⟩)] 23)) (.cells #[.string s] 9)
  have h3 := heap_alloc_new ((w.alloc (.cells #[.pointer (some ⟨R.pb, 0, none⟩)] 23)).alloc (.cells #[.string s] 9)) (.cells #[y] 30)
  simp only [size_alloc] at h2 h3
  unfold apW
  refine ⟨?_, ?_, ?_⟩
  · rw [Below.heap_alloc _ _ _ (by simp; omega), Below.heap_alloc _ _ _ (by simp; omega), Below.heap_alloc _ _ _ (by simp)]; exact h1
  · rw [Below.heap_alloc _ _ _ (by simp), Below.heap_alloc _ _ _ (by simp)]; exact h2
  · rw [Below.heap_alloc _ _ _ (by simp)]; exact h3
theorem stepR_to {R : FsR} {w w1 : World} (h : FsAt w1 (stepR R)) (hk : Keep (fun k _ => k = R.pb) w w1) : StepTo R (stepR R) w w1 :=
  ⟨h, hk.mono fun _ _ _ h => .inl h, rfl, rfl, fun _ _ _ h => h, fun _ _ _ h => h⟩
def downR (R : FsR) : FsR := { R with down := true }
theorem downR_at {R : FsR} {w : World} (h : FsAt w R) : FsAt (w.setCell ⟨R.pb, 4, none⟩ (.bool true)) (downR R) := h.set (R' := downR R) 4 _ rfl rfl rfl h.leftOk rfl
theorem downR_to {R : FsR} {w : World} (h : FsAt w R) : StepTo R (downR R) w (w.setCell ⟨R.pb, 4, none⟩ (.bool true)) :=
  ⟨downR_at h, h.setKeep 4 _, rfl, rfl, fun _ _ _ h => h, fun _ _ _ h => h⟩
/-- the file system behind Append's step -/
def apR (R : FsR) : FsR := if R.armed = true ∧ R.left = 0 then downR R else stepR R
def apErr (R : FsR) : Option Nat := if R.armed = true ∧ R.left = 0 then some 13 else none
/-- what Append makes -/
def AppendPost (R : FsR) (s : ByteArray) (ys : List Int) (w : World) (e : Ending) (w' : World) : Prop :=
  match apE R s ys.length with
  | some n => e = .returned (errV (some n)) ∧ Below w.heap.size w w'
  | none => e = .returned (errV (apErr R)) ∧ ∃ v', StepTo R { apR R with es := putE ⟨s.data.toList, v', fileXs (getE s.data.toList R.es) ++ ys, fileSafe (getE s.data.toList R.es)⟩ R.es } w w'
theorem apE_none {R : FsR} {s : ByteArray} {m : Nat} (h : apE R s m = none) : checkE R.down [s] = none ∧ (getE s.data.toList R.es = none → R.es.length < 64) ∧ (fileXs (getE s.data.toList R.es)).length + m ≤ 16777216 := by
  unfold apE at h
  split at h
  · cases h
  · rename_i hc
    split at h
    · cases h
    · rename_i h1
      split at h
      · cases h
      · rename_i h2
        exact ⟨hc, fun hg => by rcases Nat.lt_or_ge R.es.length 64 with h | h; exact h; exact absurd ⟨hg, h⟩ h1, by omega⟩
theorem checkE_none_ok {d : Bool} {s : ByteArray} (h : checkE d [s] = none) : nmOk s.data.toList = true ∧ d = false := by
  unfold checkE at h
  split at h
  · rename_i hok
    split at h
    · cases h
    · rename_i hd
      exact ⟨by simpa [okNames] using hok, by simpa using hd⟩
  · cases h
theorem bytes_pb {w w1 : World} {R : FsR} (H : FsAt w R) (hk : Keep (fun k _ => k = R.pb) w w1) {y : Value} {ys : List Int} (hy : BytesIn w y ys) : BytesIn w1 y ys := by
  obtain ⟨a, c, rfl, hc, hm, hx⟩ := hy
  refine ⟨a, c, rfl, hc, hm, hx.imp id ?_⟩
  rintro ⟨ab, ao, rfl, hx'⟩
  refine ⟨ab, ao, rfl, fun i x hi => ?_⟩
  have h := hx' i x hi
  have hlt := World.block_lt_of_cell? w _ h
  have hne : ab ≠ R.pb := fun e => by
    subst e
    rw [H.cell] at h
    have : ∀ j, (fsCells R)[j]? ≠ some (Value.int .u8 x) := fun j hj => by
      have hm := Array.mem_of_getElem? hj
      simp [fsCells] at hm
    exact this _ h
  exact (World.cell?_of_block (w := w) (hk.block ab hlt fun _ => hne)).trans h
theorem apC_at (R R1 : FsR) (w V V1 : World) (H : FsAt w R) (HV : FsAt V R) (H1 : FsAt V1 R1) (hk : Keep (fun k _ => k = R.pb) V V1) (hpb : R1.pb = R.pb) (hmb : R1.mb = R.mb) (hes : R1.es = R.es) (s : ByteArray) (hs : s.size ≤ maxLen) (hok : nmOk s.data.toList = true) (y : Value) (ys : List Int) (hy : BytesIn V y ys) (hyb : bytesOk ys)
    (hlen : (fileXs (getE s.data.toList R.es)).length + ys.length ≤ 16777216) (hmany : getE s.data.toList R.es = none → R.es.length < 64) (gx gb gf gn : Nat) (T1 T2 T3 : TypeId) (v : Value) (hv : fileV (getE s.data.toList R.es) = .agg #[v, .int .i64 (fileSafe (getE s.data.toList R.es))])
    (hx : V.heap[gx]? = some (.cells #[v, .int .i64 (fileSafe (getE s.data.toList R.es))] 113 (0, 0))) (hb : V.heap[gb]? = some (.cells #[y] T1 (0, 0))) (hf : V.heap[gf]? = some (.cells #[.pointer (some ⟨R.pb, 0, none⟩)] T2 (0, 0))) (hn : V.heap[gn]? = some (.cells #[.string s] T3 (0, 0)))
    (h1 : w.heap.size ≤ gx) (h2 : w.heap.size ≤ gb) (h3 : w.heap.size ≤ gf) (h4 : w.heap.size ≤ gn) :
    Calls Tryd.prog 50 #[.pointer (some ⟨gx, 0, none⟩), .pointer (some ⟨gb, 0, none⟩), .pointer (some ⟨gf, 0, none⟩), .pointer (some ⟨gn, 0, none⟩)] V1 fun e w' => e = .returned (.tuple #[]) ∧ AppPost R1 s.data.toList (fileXs (getE s.data.toList R.es) ++ ys) (fileSafe (getE s.data.toList R.es)) V1 w' := by
  have hlt := H.pb_lt
  have hb' : ∀ k, w.heap.size ≤ k → ∀ {ob : Obj}, V.heap[k]? = some ob → V1.heap[k]? = some ob := fun k hk1 ob ho => (hk.block k (Array.getElem?_eq_some_iff.1 ho).1 fun o h => by omega).trans ho
  have := appC_any R1 V1 H1 s hs hok y ys (bytes_pb HV hk hy) hyb (by rw [hes]; exact hlen) (by rw [hes]; exact hmany) gx gb gf gn T1 T2 T3 v (by rw [hes]; exact hv) (by rw [hes]; exact hb' _ h1 hx) (hb' _ h2 hb) (by rw [hpb]; exact hb' _ h3 hf) (hb' _ h4 hn) (fun k hk' o hr => by
    have : Reads R k o := by
      rcases hr with hr | hr | ⟨e, he, hu⟩
      · exact .inl (by rw [hr, hpb])
      · exact .inr (.inl (by rw [hr, hmb]))
      · exact .inr (.inr ⟨e, by rw [← hes]; exact he, hu⟩)
    have := H.reads_lt k o this
    rcases hk' with h | h | h | h <;> omega)
  rw [hes] at this
  exact this
set_option maxHeartbeats 4000000 in
theorem append_go (R : FsR) (w : World) (H : FsAt w R) (s : ByteArray) (hs : s.size ≤ maxLen) (y : Value) (ys : List Int) (hy : BytesIn w y ys) (hyb : bytesOk ys) (hyl : ys.length ≤ 140737488355328) (hst : R.steps < 4611686018427387904) (hc : checkE R.down [s] = none) :
    Calls Tryd.prog 13 #[.pointer (some ⟨R.pb, 0, none⟩), .string s, y] w (AppendPost R s ys w) := by
  have hk : ∀ T1 T2 T3 T4 c1 c2 c3, Calls Tryd.prog 49 #[.pointer (some ⟨R.pb, 0, none⟩), .slice (some ⟨w.heap.size + 1 + 1 + 1, 0, none⟩) 1 1] ((((w.alloc (.cells c1 T1)).alloc (.cells c2 T2)).alloc (.cells c3 T3)).alloc (.cells #[.string s] T4)) (fun e w' => e = .returned .nilIface ∧ (((w.alloc (.cells c1 T1)).alloc (.cells c2 T2)).alloc (.cells c3 T3)).alloc (.cells #[.string s] T4) = w') := fun T1 T2 T3 T4 c1 c2 c3 => by
    have := chk_at R w H s hs (((w.alloc (.cells c1 T1)).alloc (.cells c2 T2)).alloc (.cells c3 T3)) (below3 _ _ _ _) T4 (w.heap.size + 1 + 1 + 1) (by simp)
    rw [hc] at this
    exact this
  have HK := Lib.hid hk
  have hpb := H.pb_lt
  have HY := Lib.hid hy
  have HYB := Lib.hid hyb
  have HST := Lib.hid hst
  have HCH := Lib.hid hc
  have HNM := Lib.hid (checkE_none_ok hc).1
  obtain ⟨a0, cy, rfl, hcl, hml, _⟩ := hy
  obtain ⟨W, hW⟩ : ∃ W, W = apW w R s (.slice a0 ys.length cy) := ⟨_, rfl⟩
  have hbW : Below w.heap.size w W := by rw [hW]; exact apW_below _ _ _ _
  have hsW : W.heap.size = w.heap.size + 1 + 1 + 1 + 1 := by rw [hW]; exact apW_size _ _ _ _
  obtain ⟨k1, k2, k3⟩ : W.heap[w.heap.size]? = some (.cells #[.pointer (some ⟨R.pb, 0, none⟩)] 23 (0, 0)) ∧ W.heap[w.heap.size + 1]? = some (.cells #[.string s] 9 (0, 0)) ∧ W.heap[w.heap.size + 1 + 1]? = some (.cells #[.slice a0 ys.length cy] 30 (0, 0)) := by rw [hW]; exact apW_blocks _ _ _ _
  obtain ⟨a1, c1, hfv⟩ := fileV_shape w R H s.data.toList
  have hS : ∀ w1, Below W.heap.size W w1 → (w1.cell? ⟨w.heap.size, 0, none⟩ = some (.pointer (some ⟨R.pb, 0, none⟩)) ∧ w1.cell? ⟨R.pb, 0, none⟩ = some (.map (some R.mb)) ∧ w1.cell? ⟨w.heap.size + 1, 0, none⟩ = some (.string s) ∧
      (Instr.lookup 96 (.map (some R.mb)) (.string s) true).run Tryd.prog w1 = .ok (.tuple #[.agg #[.slice a1 (fileXs (getE s.data.toList R.es)).length c1, .int .i64 (fileSafe (getE s.data.toList R.es))], .bool (getE s.data.toList R.es).isSome]) w1) := fun w1 hb => by
    have hb0 : Below w.heap.size w w1 := hbW.trans (hb.mono (by omega))
    refine ⟨?_, ?_, ?_, ?_⟩
    · rw [cell_of_row w1 _ 0 _ _ _ ((hb.block _ (by omega)).trans k1)]; rfl
    · rw [(H.below hb0).cell]; rfl
    · rw [cell_of_row w1 _ 0 _ _ _ ((hb.block _ (by omega)).trans k2)]; rfl
    · rw [(H.below hb0).look s hs, hfv]
  have HSG := Lib.hid hS
  have hn1b : (fileXs (getE s.data.toList R.es)).length ≤ 16777216 := by
    cases hg : getE s.data.toList R.es with
    | none => simp [fileXs]
    | some e => exact (H.ents e (getE_some hg).1).2.2.1
  obtain ⟨n1, hn1⟩ : ∃ n1, n1 = (fileXs (getE s.data.toList R.es)).length := ⟨_, rfl⟩
  obtain ⟨sf, hsf⟩ : ∃ sf, sf = fileSafe (getE s.data.toList R.es) := ⟨_, rfl⟩
  rw [← hn1, ← hsf] at HSG hfv
  rw [← hn1] at hn1b
  have HN1 := Lib.hid hn1
  have HSF := Lib.hid hsf
  have HFV2 : Hid (fileV (getE s.data.toList R.es) = .agg #[.slice a1 n1 c1, .int .i64 (fileSafe (getE s.data.toList R.es))]) := Lib.hid (by rw [← hsf]; exact hfv)
  have HH := Lib.hid H
  have HS := Lib.hid hs
  have hn1i : (n1 : Int) ≤ 16777216 := by omega
  have hmli : (ys.length : Int) ≤ 140737488355328 := by omega
  have hS0 := HSG.out _ (Below.refl _ W).drew
  have HSV : Hid (((W.alloc (.cells #[.slice a1 n1 c1, .int .i64 sf] 113)).drew).cell? ⟨w.heap.size, 0, none⟩ = some (.pointer (some ⟨R.pb, 0, none⟩)) ∧ ((W.alloc (.cells #[.slice a1 n1 c1, .int .i64 sf] 113)).drew).cell? ⟨w.heap.size + 1, 0, none⟩ = some (.string s) ∧ ((W.alloc (.cells #[.slice a1 n1 c1, .int .i64 sf] 113)).drew).cell? ⟨w.heap.size + 1 + 1, 0, none⟩ = some (.slice a0 ys.length cy) ∧
      ((W.alloc (.cells #[.slice a1 n1 c1, .int .i64 sf] 113)).drew).cell? ⟨R.pb, 0, none⟩ = some (.map (some R.mb)) ∧ ((W.alloc (.cells #[.slice a1 n1 c1, .int .i64 sf] 113)).drew).cell? ⟨W.heap.size, 0, none⟩ = some (.slice a1 n1 c1) ∧ ((W.alloc (.cells #[.slice a1 n1 c1, .int .i64 sf] 113)).drew).cell? ⟨W.heap.size, 1, none⟩ = some (.int .i64 sf) ∧
      (Builtin.len_ #[96] 3 #[.map (some R.mb)]).run Tryd.prog ((W.alloc (.cells #[.slice a1 n1 c1, .int .i64 sf] 113)).drew) = .ok (.int .i64 R.es.length) ((W.alloc (.cells #[.slice a1 n1 c1, .int .i64 sf] 113)).drew) ∧ FsAt ((W.alloc (.cells #[.slice a1 n1 c1, .int .i64 sf] 113)).drew) R) := Lib.hid (by
    have hb : Below W.heap.size W ((W.alloc (.cells #[.slice a1 n1 c1, .int .i64 sf] 113)).drew) := (below1 _ _).drew
    have hb0 := hbW.trans (hb.mono (by omega))
    have hx : ((W.alloc (.cells #[.slice a1 n1 c1, .int .i64 sf] 113)).drew).heap[W.heap.size]? = some (.cells #[.slice a1 n1 c1, .int .i64 sf] 113 (0, 0)) := heap_alloc_new W _
    have HF := H.below hb0
    refine ⟨?_, ?_, ?_, by rw [HF.cell]; rfl, by rw [cell_of_row _ _ 0 _ _ _ hx]; rfl, by rw [cell_of_row _ _ 1 _ _ _ hx]; rfl, ?_, HF⟩
    · rw [cell_of_row _ _ 0 _ _ _ ((hb.block _ (by omega)).trans k1)]; rfl
    · rw [cell_of_row _ _ 0 _ _ _ ((hb.block _ (by omega)).trans k2)]; rfl
    · rw [cell_of_row _ _ 0 _ _ _ ((hb.block _ (by omega)).trans k3)]; rfl
    · rw [HF.map.len Tryd.underlying96, entD_size])
  have HSZ := Lib.hid hsW
  have HWW := Lib.hid hW
  have HB := Lib.hid hbW
  have HKB := Lib.hid (And.intro k1 (And.intro k2 k3))
  clear hS hsW hW hbW k1 k2 k3 hk hfv hn1 hsf hc hs H hcl hml hyb hst hn1b hyl
  obtain ⟨fnd, hfnd⟩ : ∃ fnd, fnd = (getE s.data.toList R.es).isSome := ⟨_, rfl⟩
  rw [← hfnd] at HSG hS0
  have HFND := Lib.hid hfnd
  clear hfnd
  go_enter Tryd.func13, Tryd.ntmps13
  go_upto_region 4 with (go_at_call 49; (with_reducible refine (HK.out _ _ _ _ _ _ _).mono ?_); rintro e w' ⟨rfl, rfl⟩)
  have HW2 := HWW.out
  unfold apW at HW2
  rw [← HW2]
  have HW3 := Lib.hid HW2
  clear HW2
  go_cut [8, 9] from 12 (fun p f w1 => p = .pointer (some ⟨W.heap.size, 0, none⟩) ∧ f = .bool fnd ∧ w1 = (W.alloc (.cells #[.slice a1 n1 c1, .int .i64 sf] 113)).drew)
  case first =>
    go_region_held3 (fun w1 => w1.cell? ⟨w.heap.size, 0, none⟩ = some (.pointer (some ⟨R.pb, 0, none⟩)) ∧ w1.cell? ⟨R.pb, 0, none⟩ = some (.map (some R.mb)) ∧ w1.cell? ⟨w.heap.size + 1, 0, none⟩ = some (.string s) ∧ (Instr.lookup 96 (.map (some R.mb)) (.string s) true).run Tryd.prog w1 = .ok (.tuple #[.agg #[.slice a1 n1 c1, .int .i64 sf], .bool fnd]) w1)
      (first | (with_reducible exact hS0) | exact HSG.out _ (Below.alloc0 (Below.refl _ W).drew _) | exact HSG.out _ (Below.setCell (Below.alloc0 (Below.refl _ W).drew _) (by simp) _))
      (fail)
    all_goals
      go_wp2_with (fail)
      go_meet
      case rel => exact ⟨rfl, rfl, rfl⟩
  case rest =>
    obtain ⟨rfl, rfl, rfl⟩ := hcut
    clear hS0
    have HVF := HSV.out
    obtain ⟨V, hV⟩ : ∃ V, V = (W.alloc (.cells #[.slice a1 n1 c1, .int .i64 sf] 113)).drew := ⟨_, rfl⟩
    rw [← hV] at HVF ⊢
    have HV := Lib.hid hV
    clear hV
    obtain ⟨q0, q1, q2, q3, q4, q5, hlen, q7⟩ := HVF
    have H7 := Lib.hid q7
    clear q7
    have HBV : Hid (Below w.heap.size w V) := Lib.hid (HB.out.trans (by rw [HV.out]; exact ((below1 W _).drew).mono (by have := HSZ.out; omega)))
    have HBK : Hid (V.heap[W.heap.size]? = some (.cells #[.slice a1 n1 c1, .int .i64 sf] 113 (0, 0)) ∧ V.heap[w.heap.size + 1 + 1]? = some (.cells #[.slice a0 ys.length cy] 30 (0, 0)) ∧ V.heap[w.heap.size]? = some (.cells #[.pointer (some ⟨R.pb, 0, none⟩)] 23 (0, 0)) ∧ V.heap[w.heap.size + 1]? = some (.cells #[.string s] 9 (0, 0))) := Lib.hid (by
      rw [HV.out]
      have hb : Below W.heap.size W ((W.alloc (.cells #[.slice a1 n1 c1, .int .i64 sf] 113)).drew) := (below1 _ _).drew
      have h0 := HSZ.out
      exact ⟨heap_alloc_new W _, (hb.block _ (by omega)).trans HKB.out.2.2, (hb.block _ (by omega)).trans HKB.out.1, (hb.block _ (by omega)).trans HKB.out.2.1⟩)
    by_cases hfull : fnd = false ∧ 64 ≤ R.es.length
    · obtain ⟨rfl, hfull⟩ := hfull
      have hd : decide ((64 : Int) ≤ R.es.length) = true := by simp; omega
      have HR : Hid (apE R s ys.length = some 10) := Lib.hid (by
        unfold apE
        rw [HCH.out]
        have := HFND.out
        have hgn : getE s.data.toList R.es = none := by
          cases hg : getE s.data.toList R.es with
          | none => rfl
          | some e => rw [hg] at this; cases this
        exact if_pos ⟨hgn, hfull⟩)
      clear hfull
      go_wp2_with (fail)
      go_ret
      unfold AppendPost
      rw [HR.out]
      exact ⟨rfl, HBV.out⟩
    · have HNF := Lib.hid hfull
      have hd : fnd = false → decide ((64 : Int) ≤ R.es.length) = false := fun h => by
        have : ¬ 64 ≤ R.es.length := fun h' => hfull ⟨h, h'⟩
        simp; omega
      have HD := Lib.hid hd
      clear hfull hd
      by_cases hlong : 16777216 < n1 + ys.length
      · have hd2 : decide ((16777216 : Int) - n1 < ys.length) = true := by simp; omega
        have HR : Hid (apE R s ys.length = some 2) := Lib.hid (by
          unfold apE
          rw [HCH.out]
          have := HFND.out
          show (if _ then _ else _) = _
          rw [if_neg (fun h => HNF.out ⟨by rw [this, h.1]; rfl, h.2⟩), if_pos (by rw [← HN1.out]; exact hlong)])
        clear hlong
        cases fnd with
        | false =>
          have hd := HD.out rfl
          go_wp2_with (fail)
          go_ret
          unfold AppendPost
          rw [HR.out]
          exact ⟨rfl, HBV.out⟩
        | true =>
          clear HD
          go_wp2_with (fail)
          go_ret
          unfold AppendPost
          rw [HR.out]
          exact ⟨rfl, HBV.out⟩
      · have hd2 : decide ((16777216 : Int) - n1 < ys.length) = false := by simp; omega
        have HR : Hid (apE R s ys.length = none) := Lib.hid (by
          unfold apE
          rw [HCH.out]
          have := HFND.out
          show (if _ then _ else _) = _
          rw [if_neg (fun h => HNF.out ⟨by rw [this, h.1]; rfl, h.2⟩), if_neg (by rw [← HN1.out]; exact hlong)])
        have HLG := Lib.hid hlong
        clear hlong
        have hmany : getE s.data.toList R.es = none → R.es.length < 64 := fun h => by
          have h1 := HFND.out
          rcases Nat.lt_or_ge R.es.length 64 with h' | h'
          · exact h'
          · exact absurd ⟨by rw [h1, h]; rfl, h'⟩ HNF.out
        have hat : ∀ (R1 : FsR) (V1 : World), FsAt V1 R1 → Keep (fun k _ => k = R.pb) V V1 → R1.pb = R.pb → R1.mb = R.mb → R1.es = R.es → Calls Tryd.prog 50 #[.pointer (some ⟨W.heap.size, 0, none⟩), .pointer (some ⟨w.heap.size + 1 + 1, 0, none⟩), .pointer (some ⟨w.heap.size, 0, none⟩), .pointer (some ⟨w.heap.size + 1, 0, none⟩)] V1 fun e w' => e = .returned (.tuple #[]) ∧ AppPost R1 s.data.toList (fileXs (getE s.data.toList R.es) ++ ys) (fileSafe (getE s.data.toList R.es)) V1 w' := fun R1 V1 hf hk e1 e2 e3 =>
          apC_at R R1 w V V1 HH.out H7.out hf hk e1 e2 e3 s HS.out HNM.out _ ys (HY.out.below HBV.out) HYB.out (by rw [← HN1.out]; have := HLG.out; omega) hmany _ _ _ _ _ _ _ _ HFV2.out (by rw [← HSF.out]; exact HBK.out.1) HBK.out.2.1 HBK.out.2.2.1 HBK.out.2.2.2 (by have := HSZ.out; omega) (by omega) (Nat.le_refl _) (by omega)
        have HAT := Lib.hid hat
        clear hat hmany
        by_cases hdn : R.armed = true ∧ R.left = 0
        · have hcall := step_down R V H7.out (.func (.func 50) #[] #[.pointer (some ⟨W.heap.size, 0, none⟩), .pointer (some ⟨w.heap.size + 1 + 1, 0, none⟩), .pointer (some ⟨w.heap.size, 0, none⟩), .pointer (some ⟨w.heap.size + 1, 0, none⟩)]) hdn.1 hdn.2
          have HCALL := Lib.hid hcall
          have hC := HAT.out (downR R) _ (downR_at H7.out) (Keep.setCell V R.pb 4 _ _ _ H7.out.own rfl) rfl rfl rfl
          have HC2 := Lib.hid hC
          have HER : Hid (apErr R = some 13 ∧ apR R = downR R) := Lib.hid ⟨by unfold apErr; rw [if_pos hdn], by unfold apR; rw [if_pos hdn]⟩
          clear hcall hC hdn
          cases fnd with
          | false =>
            have hd := HD.out rfl
            go_wp2_with (first | (go_at_call 51; (with_reducible refine HCALL.out.mono ?_); rintro e w1 ⟨rfl, rfl⟩) | (go_at_call 50; (with_reducible refine HC2.out.mono ?_); rintro e w1 ⟨rfl, hp⟩; have HP := Lib.hid hp; clear hp))
            go_ret
            unfold AppendPost
            rw [HR.out]
            obtain ⟨v', hp⟩ := HP.out
            refine ⟨by rw [HER.out.1]; rfl, v', ?_⟩
            rw [HER.out.2]
            exact ((StepTo.of_below HH.out HBV.out).trans (downR_to H7.out)).trans hp
          | true =>
            clear HD
            go_wp2_with (first | (go_at_call 51; (with_reducible refine HCALL.out.mono ?_); rintro e w1 ⟨rfl, rfl⟩) | (go_at_call 50; (with_reducible refine HC2.out.mono ?_); rintro e w1 ⟨rfl, hp⟩; have HP := Lib.hid hp; clear hp))
            go_ret
            unfold AppendPost
            rw [HR.out]
            obtain ⟨v', hp⟩ := HP.out
            refine ⟨by rw [HER.out.1]; rfl, v', ?_⟩
            rw [HER.out.2]
            exact ((StepTo.of_below HH.out HBV.out).trans (downR_to H7.out)).trans hp
        · have hcall := step_any R V H7.out HST.out (fun h h' => hdn ⟨h, h'⟩) 50 #[.pointer (some ⟨W.heap.size, 0, none⟩), .pointer (some ⟨w.heap.size + 1 + 1, 0, none⟩), .pointer (some ⟨w.heap.size, 0, none⟩), .pointer (some ⟨w.heap.size + 1, 0, none⟩)] (enters_of Tryd.func50 (by kernel_rfl) rfl)
            (fun w2 => ∃ v', StepTo R { stepR R with es := putE ⟨s.data.toList, v', fileXs (getE s.data.toList R.es) ++ ys, fileSafe (getE s.data.toList R.es)⟩ R.es } V w2)
            (fun V1 hf hk => (HAT.out (stepR R) V1 hf hk rfl rfl rfl).mono fun e w2 ⟨he, v', hp⟩ => ⟨he, v', (stepR_to hf hk).trans hp⟩)
          have HCALL := Lib.hid hcall
          have HER : Hid (apErr R = none ∧ apR R = stepR R) := Lib.hid ⟨by unfold apErr; rw [if_neg hdn], by unfold apR; rw [if_neg hdn]⟩
          clear hcall hdn
          cases fnd with
          | false =>
            have hd := HD.out rfl
            go_wp2_with (go_at_call 51; (with_reducible refine HCALL.out.mono ?_); rintro e w1 ⟨rfl, hp⟩; have HP := Lib.hid hp; clear hp)
            go_ret
            unfold AppendPost
            rw [HR.out]
            obtain ⟨v', hp⟩ := HP.out
            refine ⟨by rw [HER.out.1]; rfl, v', ?_⟩
            rw [HER.out.2]
            exact (StepTo.of_below HH.out HBV.out).trans hp
          | true =>
            clear HD
            go_wp2_with (go_at_call 51; (with_reducible refine HCALL.out.mono ?_); rintro e w1 ⟨rfl, hp⟩; have HP := Lib.hid hp; clear hp)
            go_ret
            unfold AppendPost
            rw [HR.out]
            obtain ⟨v', hp⟩ := HP.out
            refine ⟨by rw [HER.out.1]; rfl, v', ?_⟩
            rw [HER.out.2]
            exact (StepTo.of_below HH.out HBV.out).trans hp
theorem append_any (R : FsR) (w : World) (H : FsAt w R) (s : ByteArray) (hs : s.size ≤ maxLen) (y : Value) (ys : List Int) (hy : BytesIn w y ys) (hyb : bytesOk ys) (hyl : ys.length ≤ 140737488355328) (hst : R.steps < 4611686018427387904) :
    Calls Tryd.prog 13 #[.pointer (some ⟨R.pb, 0, none⟩), .string s, y] w (AppendPost R s ys w) := by
  cases hc : checkE R.down [s] with
  | none => exact append_go R w H s hs y ys hy hyb hyl hst hc
  | some n =>
    obtain ⟨a, c, rfl, _⟩ := hy
    refine (append_chk R w H s hs a ys.length c n hc).mono fun e w' ⟨he, hb⟩ => ?_
    unfold AppendPost apE
    rw [hc]
    exact ⟨he, hb⟩
end Go.Proofs.YtggcodobkmhkgaaDoor

/- Part 34 of the proof. -/
import Derived.Defers
import Derived.Recover
import Derived.Test.YtilpohdidekenaaGreatDoorKl8
import Derived.Test.YtilpohdidekenaaGreatDoorKl15
import Derived.Test.YtilpohdidekenaaGreatDoorKl16
import Derived.Test.YtilpohdidekenaaGreatDoorKl17
import Derived.Test.YtilpohdidekenaaGreatDoorKl33
namespace Go.Proofs.YtilpohdidekenaaGreatDoor
set_option linter.unusedVariables false
set_option linter.unusedSimpArgs false
open Go.RowKit Go.Maps Go.Proofs
set_option maxRecDepth 100000
structure KEnv (B : Nat) (w : World) : Prop where
  env : Env w
  nib : NibAt w
  err : ErrType w
  c1 : 3 < B
  c2 : 2 < B
  c3 : 0 < B
theorem KEnv.below {B : Nat} {w w' : World} (h : KEnv B w) (hb : Below B w w') : KEnv B w' :=
  ⟨h.env.below hb h.c1, h.nib.below hb h.c2, (hb.cell (p := ⟨0, 0, none⟩) h.c3).trans h.err, h.c1, h.c2, h.c3⟩
/-- the files, and slices of bytes that they don't hold -/
def FsX (B : Nat) (w : World) (p : Nat) (st : St) (bs : List (Value × List Int)) : Prop :=
  ∃ R, Own B w R ∧ R.pb = p ∧ absR R = st ∧ ∀ b ∈ bs, BytesIn w b.1 b.2 ∧ (b.2 ≠ [] → ∀ j, b.1.ownBlock = some j → ∀ o, ¬ Reads R j o)
theorem FsX.own {B p : Nat} {w : World} {st : St} {bs : List (Value × List Int)} (h : FsX B w p st bs) : OwnP B w p st := by
  obtain ⟨R, h1, h2, h3, _⟩ := h
  exact ⟨R, h1, h2, h3⟩
theorem FsX.of {B p : Nat} {w : World} {st : St} (h : OwnP B w p st) : FsX B w p st [] := by
  obtain ⟨R, h1, h2, h3⟩ := h
  exact ⟨R, h1, h2, h3, fun b hb => by cases hb⟩
theorem FsX.le {B p : Nat} {w : World} {st : St} {bs : List (Value × List Int)} (h : FsX B w p st bs) : B ≤ w.heap.size := h.own.le
theorem FsX.bytes {B p : Nat} {w : World} {st : St} {bs : List (Value × List Int)} (h : FsX B w p st bs) {b : Value × List Int} (hb : b ∈ bs) : BytesIn w b.1 b.2 := by
  obtain ⟨R, _, _, _, h4⟩ := h
  exact (h4 b hb).1
theorem FsX.below {B p : Nat} {w w' : World} {st : St} {bs : List (Value × List Int)} (h : FsX B w p st bs) (hb : Below w.heap.size w w') : FsX B w' p st bs := by
  obtain ⟨R, h1, h2, h3, h4⟩ := h
  exact ⟨R, h1.below hb, h2, h3, fun b hm => ⟨(h4 b hm).1.below hb, (h4 b hm).2⟩⟩
theorem FsX.sub {B p : Nat} {w : World} {st : St} {bs cs : List (Value × List Int)} (h : FsX B w p st bs) (hs : ∀ b ∈ cs, b ∈ bs) : FsX B w p st cs := by
  obtain ⟨R, h1, h2, h3, h4⟩ := h
  exact ⟨R, h1, h2, h3, fun b hm => h4 b (hs b hm)⟩
/-- a slice made since, or one from ahead of all -/
theorem FsX.add {B p : Nat} {w w' : World} {st : St} {bs : List (Value × List Int)} {v : Value} {xs : List Int} (h : FsX B w p st bs) (hb : Below w.heap.size w w') (hx : BytesIn w' v xs) (hv : xs ≠ [] → ∀ j, v.ownBlock = some j → j < B ∨ w.heap.size ≤ j) : FsX B w' p st ((v, xs) :: bs) := by
  obtain ⟨R, h1, h2, h3, h4⟩ := h
  refine ⟨R, h1.below hb, h2, h3, fun b hm => ?_⟩
  rcases List.mem_cons.1 hm with rfl | hm
  · refine ⟨hx, fun hn j hj o hr => ?_⟩
    rcases hv hn j hj with h | h
    · have := h1.reads j o hr; omega
    · have := h1.fs.reads_lt j o hr; omega
  · exact ⟨(h4 b hm).1.below hb, (h4 b hm).2⟩
theorem bytes_keep {F : Nat → Nat → Prop} {w w' : World} {v : Value} {xs : List Int} (h : BytesIn w v xs) (hk : Keep F w w') (hF : xs ≠ [] → ∀ j, v.ownBlock = some j → ∀ o, ¬ F j o) : BytesIn w' v xs := by
  obtain ⟨a, c, rfl, h1, h2, hx⟩ := h
  refine ⟨a, c, rfl, h1, h2, ?_⟩
  rcases hx with hx | ⟨ab, ao, rfl, hx⟩
  · exact .inl hx
  · cases xs with
    | nil => exact .inl rfl
    | cons x r =>
      right
      refine ⟨ab, ao, rfl, fun i y hy => ?_⟩
      have hlt : ab < w.heap.size := World.block_lt_of_cell? w _ (hx i y hy)
      have hb := hk.block ab hlt (hF (by simp) ab (by rfl))
      have hc := hx i y hy
      unfold World.cell? at hc ⊢
      rw [hb]; exact hc
theorem FsX.step {B : Nat} {R R' : FsR} {w w' : World} {bs : List (Value × List Int)} (h : Own B w R) (hbs : ∀ b ∈ bs, BytesIn w b.1 b.2 ∧ (b.2 ≠ [] → ∀ j, b.1.ownBlock = some j → ∀ o, ¬ Reads R j o)) (s : StepTo R R' w w') : FsX B w' R.pb (absR R') bs := by
  refine ⟨R', (h.step s).1, s.pb, rfl, fun b hm => ⟨bytes_keep (hbs b hm).1 s.keep fun hn j hj o hf => (hbs b hm).2 hn j hj o hf.reads, fun hn j hj o hr => ?_⟩⟩
  exact (hbs b hm).2 hn j hj o (s.reads j o (bytes_own_lt (hbs b hm).1 hn j hj) hr)
/-- a call on the files -/
def FsPost (B p : Nat) (bs : List (Value × List Int)) (w : World) (e : Option Nat) (st' : St) (r : Ending) (w' : World) : Prop := r = .returned (errV e) ∧ FsX B w' p st' bs ∧ Below B w w' ∧ KeepT w w'
theorem meth_x {B p c : Nat} {w : World} {st : St} {bs : List (Value × List Int)} {args : Array Value} {r : Option Nat × St} (h : FsX B w p st bs) (hc : ∀ R, FsAt w R → R.pb = p → absR R = st → Calls Tryz.prog c args w (MethPost R r w)) : Calls Tryz.prog c args w (FsPost B p bs w r.1 r.2) := by
  obtain ⟨R, h1, h2, h3, h4⟩ := h
  refine (hc R h1.fs h2 h3).mono ?_
  rintro e w' ⟨he, R', hs, ha⟩
  have hx := FsX.step h1 h4 hs
  rw [h2, ha] at hx
  exact ⟨he, hx, (h1.step hs).2, hs.typed h1.fs⟩
theorem append_x {B p : Nat} {w : World} {st : St} {bs : List (Value × List Int)} (h : FsX B w p st bs) (s : ByteArray) (hs : s.size ≤ maxLen) (y : Value) (ys : List Int) (hy : BytesIn w y ys) (hyb : bytesOk ys) (hyl : ys.length ≤ 140737488355328) (hsp : st.steps < 4611686018427387904) :
    Calls Tryz.prog 87 #[.pointer (some ⟨p, 0, none⟩), .string s, y] w (FsPost B p bs w (aAppend st s ys).1 (aAppend st s ys).2) :=
  meth_x h fun R h1 h2 h3 => by subst h2 h3; exact append_abs R w h1 s hs y ys hy hyb hyl hsp
theorem sync_x {B p : Nat} {w : World} {st : St} {bs : List (Value × List Int)} (h : FsX B w p st bs) (s : ByteArray) (hs : s.size ≤ maxLen) (hsp : st.steps < 4611686018427387904) :
    Calls Tryz.prog 88 #[.pointer (some ⟨p, 0, none⟩), .string s] w (FsPost B p bs w (aSync st s).1 (aSync st s).2) :=
  meth_x h fun R h1 h2 h3 => by subst h2 h3; exact sync_abs R w h1 s hs hsp
theorem cut_x {B p : Nat} {w : World} {st : St} {bs : List (Value × List Int)} (h : FsX B w p st bs) (s : ByteArray) (hs : s.size ≤ maxLen) (n : Int) (hsp : st.steps < 4611686018427387904) :
    Calls Tryz.prog 81 #[.pointer (some ⟨p, 0, none⟩), .string s, .int .i64 n] w (FsPost B p bs w (aCut st s n).1 (aCut st s n).2) :=
  meth_x h fun R h1 h2 h3 => by subst h2 h3; exact cut_abs R w h1 s hs n hsp
theorem arm_x {B p : Nat} {w : World} {st : St} {bs : List (Value × List Int)} (h : FsX B w p st bs) (n : Int) (hn : n ≤ 9223372036854775807) :
    Calls Tryz.prog 20 #[.pointer (some ⟨p, 0, none⟩), .int .i64 n] w (FsPost B p bs w (aArm st n).1 (aArm st n).2) :=
  meth_x h fun R h1 h2 h3 => by subst h2 h3; exact arm_abs R w h1 n hn
/-- a Signer at block g -/
structure SgX (B : Nat) (w : World) (g p : Nat) (st : St) (nm : ByteArray) (F : Nat → Int) (D k gl u : Nat) (fail : Option Nat) (bs : List (Value × List Int)) : Prop where
  env : KEnv B w
  fs : FsX B w p st bs
  cells : w.heap[g]? = some (.cells (sgCells p nm F D k gl u fail) 101 (0, 0))
  leaves : Leaves w gl (2 ^ k) (2 ^ k) (fun i => pubF F (i : Int) D)
  gB : B ≤ g
  nmS : nm.size ≤ maxLen
  dOk : 1 ≤ D ∧ D ≤ 32
  kOk : k ≤ 10
  uOk : u ≤ 2 ^ k
variable {B : Nat} {w w' : World} {g p : Nat} {st st' : St} {nm : ByteArray} {F : Nat → Int} {D k gl u : Nat} {fail : Option Nat} {bs cs : List (Value × List Int)}
theorem Leaves.keepT {n m : Nat} {L : Nat → Nat → Int} (h : Leaves w gl n m L) (hk : KeepT w w') : Leaves w' gl n m L := by
  obtain ⟨cs, h1, h2, h3⟩ := h
  exact ⟨cs, hk _ _ _ h1 (by decide) (by decide), h2, h3⟩
theorem SgX.below (m : SgX B w g p st nm F D k gl u fail bs) (hb : Below w.heap.size w w') : SgX B w' g p st nm F D k gl u fail bs :=
  ⟨m.env.below (hb.mono m.fs.le), m.fs.below hb, (hb.block _ (heap_lt' m.cells)).trans m.cells, m.leaves.below hb m.leaves.lt, m.gB, m.nmS, m.dOk, m.kOk, m.uOk⟩
theorem SgX.call (m : SgX B w g p st nm F D k gl u fail bs) (h : FsX B w' p st' cs) (hb : Below B w w') (hk : KeepT w w') : SgX B w' g p st' nm F D k gl u fail cs :=
  ⟨m.env.below hb, h, hk _ _ _ m.cells (by decide) (by decide), m.leaves.keepT hk, m.gB, m.nmS, m.dOk, m.kOk, m.uOk⟩
theorem SgX.lo (m : SgX B w g p st nm F D k gl u fail bs) : w.cell? ⟨g, 0, none⟩ = some (.pointer (some ⟨p, 0, none⟩)) ∧ w.cell? ⟨g, 1, none⟩ = some (.string nm) :=
  ⟨by rw [cell_of_row _ _ _ _ _ _ m.cells]; rfl, by rw [cell_of_row _ _ _ _ _ _ m.cells]; rfl⟩
theorem SgX.hi (m : SgX B w g p st nm F D k gl u fail bs) : w.cell? ⟨g, 34, none⟩ = some (.int .i64 (D : Int)) ∧ w.cell? ⟨g, 35, none⟩ = some (.slice (some ⟨gl, 0, none⟩) (2 ^ k) (2 ^ k)) ∧ w.cell? ⟨g, 36, none⟩ = some (.int .i64 (u : Int)) ∧ w.cell? ⟨g, 37, none⟩ = some (errV fail) :=
  ⟨by rw [cell_of_row _ _ _ _ _ _ m.cells]; exact sg_hi p nm F D k gl u fail 0, by rw [cell_of_row _ _ _ _ _ _ m.cells]; exact sg_hi p nm F D k gl u fail 1, by rw [cell_of_row _ _ _ _ _ _ m.cells]; exact sg_hi p nm F D k gl u fail 2, by rw [cell_of_row _ _ _ _ _ _ m.cells]; exact sg_hi p nm F D k gl u fail 3⟩
theorem SgX.free (m : SgX B w g p st nm F D k gl u fail bs) (i : Nat) : w.frozen? ⟨g, i, none⟩ = false := frozen_of_row w g i _ _ m.cells
theorem SgX.seed (m : SgX B w g p st nm F D k gl u fail bs) : w.rangeAt g 2 (rowOf .u8 32 F).toList := fun j v hv => by
  have hj : j < 32 := by have := (List.getElem?_eq_some_iff.1 hv).1; rw [(rowOf_list _ _ _).2] at this; exact this
  rw [cell_of_row _ _ _ _ _ _ m.cells, sg_seed _ _ _ _ _ _ _ _ _ hj]
  rw [Array.getElem?_toList, rowOf_get _ _ _ _ hj] at hv
  exact hv
theorem SgX.hashes (m : SgX B w g p st nm F D k gl u fail bs) : HashesIn w (.slice (some ⟨gl, 0, none⟩) (2 ^ k) (2 ^ k)) (keyL F D k) := m.leaves.hashes (by have := pow10 m.kOk; unfold maxLen; omega)
theorem bytes_setCell {v : Value} {xs : List Int} (h : BytesIn w v xs) {g i : Nat} {x y : Value} (hc : w.cell? ⟨g, i, none⟩ = some x) (hx : ∀ n, x ≠ .int .u8 n) : BytesIn (w.setCell ⟨g, i, none⟩ y) v xs := by
  obtain ⟨a, c, rfl, h1, h2, h3⟩ := h
  refine ⟨a, c, rfl, h1, h2, ?_⟩
  rcases h3 with h3 | ⟨ab, ao, rfl, h3⟩
  · exact .inl h3
  · right
    refine ⟨ab, ao, rfl, fun j z hz => ?_⟩
    have h4 := h3 j z hz
    rw [World.cell?_setCell_other _ _ _ _ (fun e => by rw [← e, hc] at h4; injection h4 with h4; exact hx z h4)]
    exact h4
/-- a field of the Signer is written -/
theorem FsX.setCell {cells : Array Value} {i : Nat} {x y : Value} (h : FsX B w p st bs) (hg : w.heap[g]? = some (.cells cells 101 (0, 0))) (hc : w.cell? ⟨g, i, none⟩ = some x) (hx : ∀ n, x ≠ .int .u8 n) : FsX B (w.setCell ⟨g, i, none⟩ y) p st bs := by
  obtain ⟨R, h1, h2, h3, h4⟩ := h
  have hr : ∀ o, ¬ Reads R g o := h1.fs.typed hg (by decide) (by decide)
  have hk : Keep (fun k _ => k = g) w (w.setCell ⟨g, i, none⟩ y) := .setCell w g i _ _ y hg rfl
  exact ⟨R, ⟨h1.fs.keep hk fun k o hf => by subst hf; exact hr o, h1.reads, Nat.le_trans h1.le hk.size⟩, h2, h3, fun b hm => ⟨bytes_setCell (h4 b hm).1 hc hx, (h4 b hm).2⟩⟩
theorem SgX.put {i : Nat} {x y : Value} {u' : Nat} {fail' : Option Nat} (m : SgX B w g p st nm F D k gl u fail bs) (hc : w.cell? ⟨g, i, none⟩ = some x) (hx : ∀ n, x ≠ .int .u8 n) (hs : (sgCells p nm F D k gl u fail).setIfInBounds i y = sgCells p nm F D k gl u' fail') (hu : u' ≤ 2 ^ k) : SgX B (w.setCell ⟨g, i, none⟩ y) g p st nm F D k gl u' fail' bs ∧ Below B w (w.setCell ⟨g, i, none⟩ y) := by
  have hO := Only.setCell w ⟨g, i, none⟩ y
  have hb : Below B w (w.setCell ⟨g, i, none⟩ y) := hO.below m.gB m.fs.le
  refine ⟨⟨m.env.below hb, m.fs.setCell m.cells hc hx, by rw [heap_setCell_same w g i _ _ _ m.cells, hs], ?_, m.gB, m.nmS, m.dOk, m.kOk, hu⟩, hb⟩
  obtain ⟨cs, h1, h2, h3⟩ := m.leaves
  refine ⟨cs, (hO.block gl (heap_lt' h1) ?_).trans h1, h2, h3⟩
  intro e
  have e' : gl = g := e
  subst e'
  have := m.cells
  rw [h1] at this; injection this with this; injection this with _ this; exact absurd this (by decide)
theorem errV_not (e : Option Nat) : ∀ n, errV e ≠ .int .u8 n := by intro n; cases e <;> simp [errV]
theorem SgX.setFail (m : SgX B w g p st nm F D k gl u fail bs) (f' : Option Nat) : SgX B (w.setCell ⟨g, 37, none⟩ (errV f')) g p st nm F D k gl u f' bs ∧ Below B w (w.setCell ⟨g, 37, none⟩ (errV f')) :=
  m.put m.hi.2.2.2 (errV_not _) (sg_fail ..) m.uOk
theorem SgX.setUsed (m : SgX B w g p st nm F D k gl u fail bs) (u' : Nat) (hu : u' ≤ 2 ^ k) : SgX B (w.setCell ⟨g, 36, none⟩ (.int .i64 (u' : Int))) g p st nm F D k gl u' fail bs ∧ Below B w (w.setCell ⟨g, 36, none⟩ (.int .i64 (u' : Int))) :=
  m.put m.hi.2.2.1 (by simp) (sg_used ..) hu
end Go.Proofs.YtilpohdidekenaaGreatDoor
namespace Go.Proofs.YtilpohdidekenaaGreatDoor
set_option linter.unusedVariables false
set_option linter.unusedSimpArgs false
open Go.RowKit Go.Maps Go.Proofs
set_option maxRecDepth 100000
variable {B : Nat} {w : World} {g p : Nat} {st : St} {nm : ByteArray} {F : Nat → Int} {D k gl u : Nat} {fail : Option Nat} {bs : List (Value × List Int)}
theorem kleft_any (m : SgX B w g p st nm F D k gl u fail bs) : Calls Tryz.prog 25 #[.pointer (some ⟨g, 0, none⟩)] w fun e w' => e = .returned (.int .i64 ((2 ^ k - u : Nat) : Int)) ∧ Below w.heap.size w w' := by
  obtain ⟨-, c35, c36, -⟩ := m.hi
  have hu := m.uOk
  have hk := pow10 m.kOk
  obtain ⟨N, hN⟩ : ∃ N, N = 2 ^ k := ⟨_, rfl⟩
  rw [← hN] at c35 hu hk ⊢
  clear m hN
  have e1 : IntKind.i64.wrap ((N : Int) - (u : Int)) = ((N - u : Nat) : Int) := by rw [IntWalk.i64_in _ (by omega)]; omega
  have e2 : wrap64 ((N : Int) - (u : Int)) = ((N - u : Nat) : Int) := by unfold wrap64; omega
  go_enter Tryz.func25, Tryz.ntmps25
  go_upto_region 3 with (fail)
  go_quiet (fail)
  go_wp2_with (fail)
  go_ret
  exact ⟨rfl, below_drewN w nq⟩
theorem kleft_nil (w : World) : Calls Tryz.prog 25 #[.pointer none] w fun e w' => e = .returned (.int .i64 0) ∧ w = w' := by
  go_enter Tryz.func25, Tryz.ntmps25
  go_wp2_with (fail)
  go_ret
  exact ⟨rfl, rfl⟩
theorem ksroot_any (m : SgX B w g p st nm F D k gl u fail bs) : Calls Tryz.prog 19 #[.pointer (some ⟨g, 0, none⟩)] w fun e w' => e = .returned (.agg (rowOf .u8 32 (rootF (keyL F D k)))) ∧ Below w.heap.size w w' := by
  have HB := Lib.hid (below_alloc w (.cells (rowOf .u8 32 (fun _ => 0)) 23))
  have HR := Lib.hid (RowAt.new w .u8 32 23 (fun _ => 0))
  have M := Lib.hid (m.below HB.out)
  obtain ⟨-, c35, -, -⟩ := M.out.hi
  have HRO := Lib.hid (fun v w h1 h2 => root_any _ (keyL F D k) rfl v w h1 h2)
  obtain ⟨R, hR⟩ : ∃ R, R = rootF (keyL F D k) := ⟨_, rfl⟩
  rw [← hR] at HRO ⊢
  clear m hR
  go_enter Tryz.func19, Tryz.ntmps19
  go_upto_region 1 with (fail)
  rw [zeros32]
  generalize w.alloc (.cells (rowOf .u8 32 (fun _ => 0)) 23) = w1 at *
  go_wp2_with (first
    | (go_at_call 27; (with_reducible refine (HRO.out _ _ M.out.hashes M.out.env.env).mono ?_); rintro e w3 ⟨rfl, hb⟩; replace HR := Lib.hid (HR.out.below hb HR.out.lt); replace HB := Lib.hid (HB.out.trans (hb.mono HB.out.size)); clear hb)
    | (refine wpList_store_row rfl 23 (.tmp 2) (.tmp 10) rfl w.heap.size _ rfl rfl 23 _ HR.out (by rw [rowOf_size]; kernel_rfl) (by rw [rowOf_size, rowOf_size]) (rowOf_one _ _ _) ?_))
  refine bodyPost_ret (results_cell_row rfl _ _ w.heap.size 23 (rowOf .u8 32 R) (0, 0) _ rfl (setRow_heap _ _ _ _ _ _ HR.out) Tryz.underlying23 rfl (by rw [rowOf_size]; kernel_rfl)) rfl ?_
  exact ⟨rfl, below_setRow HB.out (by omega) _⟩
theorem aAppend_steps (st : St) (s : ByteArray) (ys : List Int) : (aAppend st s ys).2.steps ≤ st.steps + 1 := by
  unfold aAppend
  split
  · simp
  · simp only
    split
    · simp
    · simp [aStepped]
theorem varint_ne (n : Nat) : (varint n).length ≠ 0 := by rw [varint_length]; have := glen_pos n; omega
set_option maxHeartbeats 1000000 in
theorem kcount_any (m : SgX B w g p st nm F D k gl u fail bs) (n : Nat) (hn : n ≤ 1048576) (hsp : st.steps < 4611686018427387900) :
    Calls Tryz.prog 44 #[.pointer (some ⟨g, 0, none⟩), .int .i64 (n : Int)] w fun e w' => e = .returned (errV (countS st nm n).1) ∧ SgX B w' g p (countS st nm n).2 nm F D k gl u fail bs ∧ Below B w w' ∧ KeepT w w' := by
  obtain ⟨ea, sa, hA⟩ : ∃ ea sa, aAppend st nm (recF (varint n)) = (ea, sa) := ⟨_, _, rfl⟩
  have hst := aAppend_steps st nm (recF (varint n))
  rw [hA] at hst
  have HV := Lib.hid (vlen n (by omega))
  have HN0 := Lib.hid (varint_ne n)
  have HAP := Lib.hid (show ∀ w v, FsX B w p st bs → BytesIn w v (recF (varint n)) → Calls Tryz.prog 87 #[.pointer (some ⟨p, 0, none⟩), .string nm, v] w (FsPost B p bs w ea sa) from fun w v h1 h2 => by
    have h := append_x h1 nm m.nmS v _ h2 (recF_ok (varintB n)) (by rw [recF_length]; have := HV.out; omega) (by omega)
    rw [hA] at h; exact h)
  have HSY := Lib.hid (show ∀ w, FsX B w p sa bs → Calls Tryz.prog 88 #[.pointer (some ⟨p, 0, none⟩), .string nm] w (FsPost B p bs w (aSync sa nm).1 (aSync sa nm).2) from fun w h1 => sync_x h1 nm m.nmS (by simp only at hst; omega))
  have HA := Lib.hid hA
  have HU := Lib.hid (show IntKind.u64.wrap (n : Int) = (n : Int) by rw [show IntKind.u64.wrap (n : Int) = (n : Int) % 18446744073709551616 from rfl]; omega)
  have HNN := Lib.hid hn
  have HSE := Lib.hid (show ∀ w v, NibAt w → BytesIn w v (varint n) → Calls Tryz.prog 83 #[v] w (FrameOk (varint n) w) from fun w v h1 h2 => frame_ok v _ w h1 h2 (varintB n) HN0.out (by have := HV.out; omega))
  have M := Lib.hid m
  have HB := Lib.hid (Below.refl w.heap.size w)
  have HB0 := Lib.hid m.fs.le
  obtain ⟨vn, hvn⟩ : ∃ vn, vn = varint n := ⟨_, rfl⟩
  rw [← hvn] at HSE HV HAP
  have HVN := Lib.hid hvn
  clear m hst hA hn hsp hvn
  go_enter Tryz.func44, Tryz.ntmps44
  go_upto_region 4 with (first
    | (go_at_call 84; (with_reducible refine (new_on _).mono ?_); rintro e w1 ⟨rfl, hw, hb⟩; have HW := Lib.hid hw; replace HB := Lib.hid hb; clear hw hb)
    | (go_at_call 85; (with_reducible refine (wuint_lit w.heap.size w.heap.size _ _ n _ HU.out w _ HW.out HB.out (Nat.le_refl _) (by have := HNN.out; omega) (by simp)).mono ?_); rintro e w2 ⟨rfl, v2, hw, hb⟩; rw [List.nil_append, ← HVN.out] at hw; replace HW := Lib.hid hw; replace HB := Lib.hid hb; clear hw hb)
    | (go_at_call 86; (with_reducible refine (wdone_on w.heap.size w.heap.size _ _ w _ HW.out HB.out (Nat.le_refl _) (by have := HV.out; omega)).mono ?_); rintro e w3 ⟨v3, rfl, hx, hb⟩; have HX := Lib.hid hx; replace HB := Lib.hid hb; clear hx hb HW)
    | (go_at_call 83; (with_reducible refine (HSE.out _ _ (M.out.env.below (HB.out.mono HB0.out)).nib HX.out).mono ?_); rintro e w4 ⟨v4, rfl, ho, hb⟩; replace HX := Lib.hid (owns_in ho (by rw [recF_length]; have := HV.out; unfold maxLen; omega)); replace HB := Lib.hid (HB.out.trans (hb.mono HB.out.size)); clear ho hb))
  replace M := Lib.hid (M.out.below ((HB.out).trans (Below.refl _ _).drew))
  replace HX := Lib.hid (HX.out.below ((Below.refl _ w4).drew))
  have HK := Lib.hid (KeepT.of_below (HB.out.trans ((Below.refl _ w4).drew.mono HB.out.size)))
  replace HB := Lib.hid ((HB.out.trans ((Below.refl _ w4).drew.mono HB.out.size)).mono HB0.out)
  have hS0 := M.out.lo
  have HAPP := Lib.hid (HAP.out _ _ M.out.fs HX.out)
  cases ea with
  | some x =>
    have HC := Lib.hid (show countS st nm n = (some x, sa) by unfold countS; rw [HA.out])
    go_region_held3 (fun w' => w'.cell? ⟨g, 0, none⟩ = some (.pointer (some ⟨p, 0, none⟩)) ∧ w'.cell? ⟨g, 1, none⟩ = some (.string nm))
      (first | (with_reducible exact hS0) | (with_reducible exact hS1))
      (first | (go_at_call 87; (with_reducible refine HAPP.out.mono ?_); rintro e w5 ⟨rfl, hx, hb, hk⟩; rw [show errV (some x) = Value.iface 87 (.int .i64 (x : Int)) from rfl]; replace M := Lib.hid (M.out.call hx hb hk); replace HB := Lib.hid (HB.out.trans hb); replace HK := Lib.hid (HK.out.trans hk); have hS1 := M.out.lo; clear hx hb hk))
    go_wp2_with (fail)
    go_ret
    rw [HC.out]
    exact ⟨rfl, M.out, HB.out, HK.out⟩
  | none =>
    have HC := Lib.hid (show countS st nm n = aSync sa nm by unfold countS; rw [HA.out])
    obtain ⟨es, ss, hS⟩ : ∃ es ss, aSync sa nm = (es, ss) := ⟨_, _, rfl⟩
    rw [hS] at HC HSY
    clear hS
    go_region_held3 (fun w' => w'.cell? ⟨g, 0, none⟩ = some (.pointer (some ⟨p, 0, none⟩)) ∧ w'.cell? ⟨g, 1, none⟩ = some (.string nm))
      (first | (with_reducible exact hS0) | (with_reducible exact hS1))
      (first | (go_at_call 87; (with_reducible refine HAPP.out.mono ?_); rintro e w5 ⟨rfl, hx, hb, hk⟩; rw [show errV none = Value.nilIface from rfl]; replace M := Lib.hid (M.out.call hx hb hk); replace HB := Lib.hid (HB.out.trans hb); replace HK := Lib.hid (HK.out.trans hk); have hS1 := M.out.lo; clear hx hb hk))
    clear hS0 hS1
    go_upto_region 7 with (fail)
    replace M := Lib.hid (M.out.below ((Below.refl _ w5).drew))
    replace HB := Lib.hid (HB.out.trans (((Below.refl _ w5).drew).mono M.out.fs.le))
    replace HK := Lib.hid (HK.out.trans (KeepT.of_below ((Below.refl _ w5).drew)))
    have hS0 := M.out.lo
    have HSYY := Lib.hid (HSY.out _ M.out.fs)
    go_region_held3 (fun w' => w'.cell? ⟨g, 0, none⟩ = some (.pointer (some ⟨p, 0, none⟩)) ∧ w'.cell? ⟨g, 1, none⟩ = some (.string nm))
      (first | (with_reducible exact hS0) | (with_reducible exact hS1))
      (first | (go_at_call 88; (with_reducible refine HSYY.out.mono ?_); rintro e w6 ⟨rfl, hx, hb, hk⟩; replace M := Lib.hid (M.out.call hx hb hk); replace HB := Lib.hid (HB.out.trans hb); replace HK := Lib.hid (HK.out.trans hk); have hS1 := M.out.lo; clear hx hb hk))
    go_wp2_with (fail)
    go_ret
    rw [HC.out]
    exact ⟨rfl, M.out, HB.out, HK.out⟩
end Go.Proofs.YtilpohdidekenaaGreatDoor
namespace Go.Proofs.YtilpohdidekenaaGreatDoor
set_option linter.unusedVariables false
set_option linter.unusedSimpArgs false
open Go.RowKit Go.Maps Go.Proofs
set_option maxRecDepth 100000
variable {B : Nat} {w : World} {g p : Nat} {st : St} {nm : ByteArray} {F : Nat → Int} {D k gl u : Nat} {fail : Option Nat} {bs : List (Value × List Int)}
theorem ksignBy_any (m : SgX B w g p st nm F D k gl u fail bs) (i : Nat) (hi : i < 2 ^ k) (v : Value) (text : List Int) (hx : BytesIn w v text) :
    Calls Tryz.prog 45 #[.pointer (some ⟨g, 0, none⟩), .int .i64 (i : Int), v] w fun e w' => ∃ v', e = .returned (.tuple #[v', .nilIface]) ∧ BytesIn w' v' (sigF F D k i text) ∧ (∀ j, v'.ownBlock = some j → w.heap.size ≤ j) ∧ Below w.heap.size w w' := by
  have hD := m.dOk
  have hk := m.kOk
  have hp := pow10 hk
  obtain ⟨ds, hds⟩ : ∃ ds, ds = digestF text D := ⟨_, rfl⟩
  have hdl : ds.length = D := by rw [hds]; exact digestF_length text D
  have hdb : bytesOk ds := by rw [hds]; exact digestF_ok text D
  have HDG := Lib.hid (show ∀ w v, Env w → BytesIn w v text → Calls Tryz.prog 66 #[v, .int .i64 (D : Int)] w fun e w' => ∃ v', e = .returned (.tuple #[v', .nilIface]) ∧ BytesIn w' v' ds ∧ Below w.heap.size w w' from fun w v h1 h2 => by
    have h := wdigest_any v text (D : Int) w h2 h1
    rw [show digR text (D : Int) = (ds, none) by unfold digR; rw [if_pos (by omega), hds]; rfl] at h
    exact h)
  obtain ⟨on, hon⟩ : ∃ on, on = signF F (i : Int) ds := ⟨_, rfl⟩
  have hol : on.length ≤ 4096 := by rw [hon, signF_length]; omega
  have HSG := Lib.hid (show ∀ w v, Env w → BytesIn w v ds → Calls Tryz.prog 89 #[.agg (rowOf .u8 32 F), .int .i64 (i : Int), v] w fun e w' => ∃ v', e = .returned (.tuple #[v', .nilIface]) ∧ BytesIn w' v' on ∧ Below w.heap.size w w' from fun w v h1 h2 => by
    have h := wsign_any F (i : Int) v ds w h1 h2 hdb
    rw [show signR F (i : Int) ds = (on, none) by unfold signR; rw [if_pos (by omega), hon]] at h
    exact h)
  have hpl := keyPath_length F D k i hk hi
  obtain ⟨ps, hps⟩ : ∃ ps, ps = pathF (keyL F D k) i := ⟨_, rfl⟩
  rw [← hps] at hpl
  have HPT := Lib.hid (show ∀ w v, Env w → HashesIn w v (keyL F D k) → Calls Tryz.prog 90 #[v, .int .i64 (i : Int)] w fun e w' => ∃ r, e = .returned (.tuple #[r, .nilIface]) ∧ HashesIn w' r ps ∧ Below w.heap.size w w' from fun w v h1 h2 => by
    have h := spath_any (keyL F D k) (i : Int) v w h2 h1
    rw [show pathR (keyL F D k) (i : Int) = (ps, none) by unfold pathR; rw [if_pos (by rw [keyL_length]; omega), Int.toNat_natCast, hps]] at h
    exact h.mono fun e w' ⟨r, h1, h2, h3⟩ => ⟨r, h1, HashesIn.of_own h2, h3⟩)
  have HEN := Lib.hid (show ∀ w vo vp, BytesIn w vo on → HashesIn w vp ps → Calls Tryz.prog 91 #[.agg #[.int .i64 (i : Int), vo, vp]] w fun e w' => ∃ v', e = .returned v' ∧ BytesIn w' v' (encF i on ps) ∧ (∀ j, v'.ownBlock = some j → w.heap.size ≤ j) ∧ Below w.heap.size w w' from fun w vo vp h1 h2 => kencode_any i vo vp on ps w (by omega) h1 h2 (by omega) (by omega))
  have HE := Lib.hid (show sigF F D k i text = encF i on ps by unfold sigF; rw [hon, hps, hds])
  have M := Lib.hid m
  have HX := Lib.hid hx
  have HB := Lib.hid (Below.refl w.heap.size w)
  obtain ⟨-, c35, -, -⟩ := m.hi
  obtain ⟨c34, -, -, -⟩ := m.hi
  clear m hx hD hk hp hdl hdb hol hpl hon hps hds hi
  rw [HE.out]
  clear HE
  go_enter Tryz.func45, Tryz.ntmps45
  go_upto_region 4 with (go_at_call 66; (with_reducible refine (HDG.out _ _ M.out.env.env HX.out).mono ?_); rintro e w2 ⟨vd, rfl, hd, hb⟩; replace M := Lib.hid (M.out.below hb); have HV := Lib.hid hd; replace HB := Lib.hid (HB.out.trans (hb.mono HB.out.size)); clear hd hb c34 c35)
  go_upto_region 7 with (first
    | (refine wpList_load_mid rfl 23 (.tmp 27) rfl g 2 rfl _ _ M.out.seed Tryz.underlying23 rfl (by rw [(rowOf_list _ _ _).2]; kernel_rfl) ?_; rw [Array.toArray_toList])
    | (go_at_call 89; (with_reducible refine (HSG.out _ _ M.out.env.env HV.out).mono ?_); rintro e w3 ⟨vo, rfl, ho, hb⟩; obtain ⟨ao, co, rfl, -⟩ := id ho; replace M := Lib.hid (M.out.below hb); have HO := Lib.hid ho; replace HB := Lib.hid (HB.out.trans (hb.mono HB.out.size)); clear ho hb))
  obtain ⟨-, c35, -, -⟩ := M.out.hi
  go_wp2_with (first
    | (go_at_call 90; (with_reducible refine (HPT.out _ _ M.out.env.env M.out.hashes).mono ?_); rintro e w4 ⟨vp, rfl, hp, hb⟩; obtain ⟨ap, cp, rfl⟩ := hp.len; replace HO := Lib.hid (HO.out.below hb); have HP := Lib.hid hp; replace HB := Lib.hid (HB.out.trans (hb.mono HB.out.size)); clear hp hb c35)
    | (go_at_call 91; (with_reducible refine (HEN.out _ _ _ HO.out HP.out).mono ?_); rintro e w5 ⟨v5, rfl, hx, hj, hb⟩; have HR := Lib.hid (show BytesIn w5 v5 (encF i on ps) ∧ (∀ j, v5.ownBlock = some j → w.heap.size ≤ j) from ⟨hx, fun j h => Nat.le_trans HB.out.size (hj j h)⟩); replace HB := Lib.hid (HB.out.trans (hb.mono HB.out.size)); clear hx hj hb))
  go_ret2
  exact ⟨_, rfl, HR.out.1, HR.out.2, HB.out⟩
theorem bytes_nilK (w : World) : BytesIn w (.slice none 0 0) [] := ⟨none, 0, rfl, Nat.le_refl _, by decide, .inl rfl⟩
theorem SgX.addNil (m : SgX B w g p st nm F D k gl u fail bs) : SgX B w g p st nm F D k gl u fail ((.slice none 0 0, []) :: bs) :=
  ⟨m.env, m.fs.add (Below.refl _ w) (bytes_nilK w) (fun h => absurd rfl h), m.cells, m.leaves, m.gB, m.nmS, m.dOk, m.kOk, m.uOk⟩
/-- blocks that are neither a file's, nor the file system's, nor a Signer stay -/
def KeepS (w w' : World) : Prop := ∀ (b : Nat) (cs : Array Value) (T : TypeId), w.heap[b]? = some (.cells cs T (0, 0)) → T ≠ 98 → T ≠ 5 → T ≠ 101 → w'.heap[b]? = some (.cells cs T (0, 0))
theorem KeepS.trans {a b c : World} (h : KeepS a b) (k : KeepS b c) : KeepS a c := fun g cs T hg h1 h2 h3 => k g cs T (h g cs T hg h1 h2 h3) h1 h2 h3
theorem KeepS.of {a b : World} (h : KeepT a b) : KeepS a b := fun g cs T hg h1 h2 _ => h g cs T hg h1 h2
theorem KeepS.of_below {w w' : World} (h : Below w.heap.size w w') : KeepS w w' := KeepS.of (KeepT.of_below h)
theorem KeepS.setCell {w : World} {g i : Nat} {cs : Array Value} (hg : w.heap[g]? = some (.cells cs 101 (0, 0))) (y : Value) : KeepS w (w.setCell ⟨g, i, none⟩ y) := fun b cs' T hb _ _ h3 => ((Only.setCell w ⟨g, i, none⟩ y).block b (heap_lt' hb) (fun e => by
  have e' : b = g := e
  subst e'
  rw [hg] at hb; injection hb with hb; injection hb with _ hb; exact h3 hb.symm)).trans hb
/-- what Sign answers -/
def SignPost (B g p : Nat) (st' : St) (nm : ByteArray) (F : Nat → Int) (D k gl u' : Nat) (fail' : Option Nat) (bs : List (Value × List Int)) (ys : List Int) (er : Option Nat) (w : World) (e : Ending) (w' : World) : Prop :=
  ∃ v', e = .returned (.tuple #[v', errV er]) ∧ SgX B w' g p st' nm F D k gl u' fail' ((v', ys) :: bs) ∧ Below B w w' ∧ KeepS w w'
theorem ksign_nil (v : Value) (w : World) : Calls Tryz.prog 21 #[.pointer none, v] w fun e w' => e = .returned (.tuple #[.slice none 0 0, errV (some 20)]) ∧ w = w' := by
  go_enter Tryz.func21, Tryz.ntmps21
  go_wp2_with (fail)
  go_ret2
  exact ⟨rfl, rfl⟩
theorem ksign_spent (m : SgX B w g p st nm F D k gl (2 ^ k) none bs) (v : Value) :
    Calls Tryz.prog 21 #[.pointer (some ⟨g, 0, none⟩), v] w (SignPost B g p st nm F D k gl (2 ^ k) none bs [] (some 22) w) := by
  have HL := Lib.hid (kleft_any m)
  obtain ⟨-, -, -, c37⟩ := m.hi
  rw [show errV none = Value.nilIface from rfl] at c37
  have M := Lib.hid m
  rw [Nat.sub_self] at HL
  clear m
  go_enter Tryz.func21, Tryz.ntmps21
  go_wp2_with (go_at_call 25; (with_reducible refine HL.out.mono ?_); rintro e w2 ⟨rfl, hb⟩; have HB := Lib.hid hb; clear hb c37)
  go_ret2
  exact ⟨_, rfl, (M.out.below HB.out).addNil, HB.out.mono M.out.fs.le, KeepS.of_below HB.out⟩
set_option maxHeartbeats 1000000 in
theorem ksign_err (m : SgX B w g p st nm F D k gl u none bs) (v : Value) (hu : u < 2 ^ k) (x : Nat) (st' : St) (hsp : st.steps < 4611686018427387900) (hc : countS st nm (u + 1) = (some x, st')) :
    Calls Tryz.prog 21 #[.pointer (some ⟨g, 0, none⟩), v] w (SignPost B g p st' nm F D k gl u (some x) bs [] (some x) w) := by
  have HL := Lib.hid (kleft_any m)
  obtain ⟨-, -, c36, c37⟩ := m.hi
  rw [show errV none = Value.nilIface from rfl] at c37
  have M := Lib.hid m
  have hp := pow10 m.kOk
  have hz : ((2 ^ k - u : Nat) : Int) ≠ 0 := by omega
  obtain ⟨z, hz2⟩ : ∃ z : Int, z = ((2 ^ k - u : Nat) : Int) := ⟨_, rfl⟩
  rw [← hz2] at HL hz
  have hz3 : (z == 0) = false := by simpa using hz
  have HCO := Lib.hid (show ∀ w, SgX B w g p st nm F D k gl u none bs → Calls Tryz.prog 44 #[.pointer (some ⟨g, 0, none⟩), .int .i64 ((u : Int) + 1)] w fun e w' => e = .returned (errV (some x)) ∧ SgX B w' g p st' nm F D k gl u none bs ∧ Below B w w' ∧ KeepT w w' from fun w h => by
    have := kcount_any h (u + 1) (by omega) hsp
    rw [hc] at this
    rw [show ((u + 1 : Nat) : Int) = (u : Int) + 1 by omega] at this
    exact this)
  have hub : (u : Int) < 1024 := by omega
  clear m hp hc hsp hz hz2
  go_enter Tryz.func21, Tryz.ntmps21
  go_upto_region 7 with (go_at_call 25; (with_reducible refine HL.out.mono ?_); rintro e w2 ⟨rfl, hb⟩; have HK := Lib.hid (KeepS.of_below hb); have HB := Lib.hid (hb.mono M.out.fs.le); replace M := Lib.hid (M.out.below hb); clear hb c36 c37)
  obtain ⟨-, -, c36, -⟩ := M.out.hi
  go_upto_region 9 with (go_at_call 44; (with_reducible refine (HCO.out _ M.out).mono ?_); rintro e w3 ⟨rfl, hm, hb, ht⟩; replace HK := Lib.hid (HK.out.trans (KeepS.of ht)); clear ht; rw [show errV (some x) = Value.iface 87 (.int .i64 (x : Int)) from rfl]; replace HB := Lib.hid (HB.out.trans hb); replace M := Lib.hid hm; have fr := hm.free 37; have c37 := hm.hi.2.2.2; clear hb c36 hm)
  replace HK := Lib.hid (HK.out.trans (KeepS.setCell (i := 37) M.out.cells (errV (some x))))
  obtain ⟨hm, hb⟩ := M.out.setFail (some x)
  rw [show errV (some x) = Value.iface 87 (.int .i64 (x : Int)) from rfl] at hm hb HK
  generalize w3.setCell ⟨g, 37, none⟩ (Value.iface 87 (.int .i64 (x : Int))) = w4 at *
  replace M := Lib.hid hm
  replace HB := Lib.hid (HB.out.trans hb)
  clear c37 fr hb
  have c37 : w4.cell? ⟨g, 37, none⟩ = some (Value.iface 87 (.int .i64 (x : Int))) := hm.hi.2.2.2
  clear hm
  go_upto_region 10 with (fail)
  go_quiet (fail)
  go_wp2_with (fail)
  go_ret2
  exact ⟨_, rfl, (M.out.below (below_drewN w4 nq)).addNil, HB.out.trans ((below_drewN w4 nq).mono M.out.fs.le), HK.out.trans (KeepS.of_below (below_drewN w4 nq))⟩
set_option maxHeartbeats 1000000 in
theorem ksign_ok (m : SgX B w g p st nm F D k gl u none bs) (v : Value) (text : List Int) (hv : (v, text) ∈ bs) (hu : u < 2 ^ k) (st' : St) (hsp : st.steps < 4611686018427387900) (hc : countS st nm (u + 1) = (none, st')) :
    Calls Tryz.prog 21 #[.pointer (some ⟨g, 0, none⟩), v] w (SignPost B g p st' nm F D k gl (u + 1) none bs (sigF F D k u text) none w) := by
  have HL := Lib.hid (kleft_any m)
  obtain ⟨-, -, c36, c37⟩ := m.hi
  rw [show errV none = Value.nilIface from rfl] at c37
  have M := Lib.hid m
  have hp := pow10 m.kOk
  have hz : ((2 ^ k - u : Nat) : Int) ≠ 0 := by omega
  obtain ⟨z, hz2⟩ : ∃ z : Int, z = ((2 ^ k - u : Nat) : Int) := ⟨_, rfl⟩
  rw [← hz2] at HL hz
  have hz3 : (z == 0) = false := by simpa using hz
  have HCO := Lib.hid (show ∀ w, SgX B w g p st nm F D k gl u none bs → Calls Tryz.prog 44 #[.pointer (some ⟨g, 0, none⟩), .int .i64 ((u : Int) + 1)] w fun e w' => e = .returned .nilIface ∧ SgX B w' g p st' nm F D k gl u none bs ∧ Below B w w' ∧ KeepT w w' from fun w h => by
    have := kcount_any h (u + 1) (by omega) hsp
    rw [hc] at this
    rw [show ((u + 1 : Nat) : Int) = (u : Int) + 1 by omega] at this
    exact this)
  have hub : (u : Int) < 1024 := by omega
  have HU := Lib.hid hu
  have HV := Lib.hid hv
  have HSB := Lib.hid (show ∀ w, SgX B w g p st' nm F D k gl (u + 1) none bs → Calls Tryz.prog 45 #[.pointer (some ⟨g, 0, none⟩), .int .i64 (u : Int), v] w fun e w' => ∃ v', e = .returned (.tuple #[v', .nilIface]) ∧ SgX B w' g p st' nm F D k gl (u + 1) none ((v', sigF F D k u text) :: bs) ∧ Below w.heap.size w w' from fun w h =>
    (ksignBy_any h u hu v text (h.fs.bytes hv)).mono fun e w' ⟨v', h1, h2, h3, h4⟩ => ⟨v', h1, ⟨h.env.below (h4.mono h.fs.le), h.fs.add h4 h2 (fun _ j hj => .inr (h3 j hj)), (h4.block _ (heap_lt' h.cells)).trans h.cells, h.leaves.below h4 h.leaves.lt, h.gB, h.nmS, h.dOk, h.kOk, h.uOk⟩, h4⟩)
  clear m hp hc hsp hz hz2 hu hv
  go_enter Tryz.func21, Tryz.ntmps21
  go_upto_region 7 with (go_at_call 25; (with_reducible refine HL.out.mono ?_); rintro e w2 ⟨rfl, hb⟩; have HK := Lib.hid (KeepS.of_below hb); have HB := Lib.hid (hb.mono M.out.fs.le); replace M := Lib.hid (M.out.below hb); clear hb c36 c37)
  obtain ⟨-, -, c36, -⟩ := M.out.hi
  go_upto_region 9 with (go_at_call 44; (with_reducible refine (HCO.out _ M.out).mono ?_); rintro e w3 ⟨rfl, hm, hb, ht⟩; replace HK := Lib.hid (HK.out.trans (KeepS.of ht)); clear ht; replace HB := Lib.hid (HB.out.trans hb); replace M := Lib.hid hm; have fr := hm.free 37; have c37 := hm.hi.2.2.2; clear hb c36 hm)
  replace HK := Lib.hid (HK.out.trans (KeepS.setCell (i := 37) M.out.cells (errV none)))
  obtain ⟨hm, hb⟩ := M.out.setFail none
  rw [show errV none = Value.nilIface from rfl] at hm hb HK
  generalize w3.setCell ⟨g, 37, none⟩ Value.nilIface = w4 at *
  replace M := Lib.hid hm
  replace HB := Lib.hid (HB.out.trans hb)
  clear c37 fr hb
  have c37 : w4.cell? ⟨g, 37, none⟩ = some Value.nilIface := hm.hi.2.2.2
  have c36 := hm.hi.2.2.1
  have fr := hm.free 36
  clear hm
  go_upto_region 12 with (fail)
  replace HK := Lib.hid (HK.out.trans (KeepS.setCell (i := 36) M.out.cells (.int .i64 ((u : Int) + 1))))
  obtain ⟨hm, hb⟩ := M.out.setUsed (u + 1) HU.out
  rw [show ((u + 1 : Nat) : Int) = (u : Int) + 1 by omega] at hm hb
  generalize w4.setCell ⟨g, 36, none⟩ (.int .i64 ((u : Int) + 1)) = w5 at *
  replace M := Lib.hid hm
  replace HB := Lib.hid (HB.out.trans hb)
  clear c37 c36 fr hb hm
  go_wp2_with (go_at_call 45; (with_reducible refine (HSB.out _ M.out).mono ?_); rintro e w6 ⟨v6, rfl, hm, hb⟩; replace HK := Lib.hid (HK.out.trans (KeepS.of_below hb)); replace HB := Lib.hid (HB.out.trans (hb.mono M.out.fs.le)); replace M := Lib.hid hm; clear hm hb)
  go_ret2
  exact ⟨_, rfl, M.out, HB.out, HK.out⟩
end Go.Proofs.YtilpohdidekenaaGreatDoor
namespace Go.Proofs.YtilpohdidekenaaGreatDoor
set_option linter.unusedVariables false
set_option linter.unusedSimpArgs false
open Go.RowKit
set_option maxRecDepth 100000
theorem tornd_idle (w : World) : CallsD Tryz.prog 121 #[] .returning w fun e u' w' => e = .returned (.tuple #[]) ∧ u' = .returning ∧ w' = w := by
  refine callsD_of_wpS Tryz.func121 rfl fun c₀ cs hu => ?_
  apply wpS_region
  simp [wpOpsS, go_sem, recoverD, hu, Tryz.ntmps121, Exit.thenS]
  cases c₀
  simp_all [bodyPostS, results, Tryz.results121]
theorem torn_nil (w : World) : Calls Tryz.prog 79 #[.nilIface] w fun e w' => e = .returned (.bool false) ∧ w = w' := by
  go_enter_defers Tryz.func79, Tryz.ntmps79
  go_wp2_with (go_at_call 77; (with_reducible refine (is_nil 12 _).mono ?_); rintro e w2 ⟨rfl, rfl⟩)
  refine leaves_cons (f := 121) (args := #[]) (by simp) (by simp [go_sem]) ?_
  refine (tornd_idle _).mono ?_
  rintro e u' w'' ⟨rfl, rfl, rfl⟩
  exact ⟨_, results_tmp rfl _ _ _, rfl, rfl⟩
theorem torn_num (n : Int) (b : Bool) (hb : (n == 12) = b) (w : World) : Calls Tryz.prog 79 #[.iface 87 (.int .i64 n)] w fun e w' => e = .returned (.bool b) ∧ w = w' := by
  subst hb
  go_enter_defers Tryz.func79, Tryz.ntmps79
  go_wp2_with (go_at_call 77; (with_reducible refine (is_num n 12 _).mono ?_); rintro e w2 ⟨rfl, rfl⟩)
  refine leaves_cons (f := 121) (args := #[]) (by simp) (by simp [go_sem]) ?_
  refine (tornd_idle _).mono ?_
  rintro e u' w'' ⟨rfl, rfl, rfl⟩
  exact ⟨_, results_tmp rfl _ _ _, rfl, rfl⟩
end Go.Proofs.YtilpohdidekenaaGreatDoor

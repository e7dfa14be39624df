/- Part 37 of the proof. -/
import Derived.Lib.ItoaNum
import Derived.Shelf.Small.Bits
import Derived.Shelf.Small.Strs
import Derived.Shelf.Strconv.Itoa0
import Derived.Shelf.Strings.Search1
import Derived.Test.YtanekacpalpcbaaGreatDoorProg
import Derived.Test.YtanekacpalpcbaaGreatDoorRd5
import Derived.Test.YtanekacpalpcbaaGreatDoorRd7
import Derived.Test.YtanekacpalpcbaaGreatDoorRd12
import Derived.Test.YtanekacpalpcbaaGreatDoorRd13
import Derived.Test.YtanekacpalpcbaaGreatDoorRd23
import Derived.Test.YtanekacpalpcbaaGreatDoorRd36
namespace Go.Proofs.YtanekacpalpcbaaGreatDoor
set_option linter.unusedVariables false
set_option linter.unusedSimpArgs false
open Go.RowKit
set_option maxRecDepth 100000
/-- behind a call of a Writer that was made above the mark B -/
theorem wpost_on {p B : Nat} {v : Value} {xs ys : List Int} {w0 w w' : World} {e : Ending} (h : WPost p v xs ys w e w') (hw : WAt w p v xs) (hb : Below B w0 w) (hB : B ≤ p) :
    e = .returned (.pointer (some ⟨p, 0, none⟩)) ∧ ∃ v', WAt w' p v' (xs ++ ys) ∧ Below B w0 w' := by
  obtain ⟨he, v', h1, h2⟩ := h
  exact ⟨he, v', h1, hb.trans (h2.below hw hB)⟩
theorem wuint_on (p B : Nat) (v : Value) (xs : List Int) (n : Nat) (w0 w : World) (hw : WAt w p v xs) (hb : Below B w0 w) (hB : B ≤ p) (hn : n < 18446744073709551616) (hl : xs.length + 10 ≤ 140737488355328) :
    Calls Tryz.prog 204 #[.pointer (some ⟨p, 0, none⟩), .int .u64 (n : Int)] w fun e w' => e = .returned (.pointer (some ⟨p, 0, none⟩)) ∧ ∃ v', WAt w' p v' (xs ++ varint n) ∧ Below B w0 w' :=
  (wuint_any p v xs n w hw hn hl).mono fun _ _ h => wpost_on h hw hb hB
theorem wuint_lit (p B : Nat) (v : Value) (xs : List Int) (n : Nat) (m : Int) (hm : m = (n : Int)) (w0 w : World) (hw : WAt w p v xs) (hb : Below B w0 w) (hB : B ≤ p) (hn : n < 18446744073709551616) (hl : xs.length + 10 ≤ 140737488355328) :
    Calls Tryz.prog 204 #[.pointer (some ⟨p, 0, none⟩), .int .u64 m] w fun e w' => e = .returned (.pointer (some ⟨p, 0, none⟩)) ∧ ∃ v', WAt w' p v' (xs ++ varint n) ∧ Below B w0 w' := by
  subst hm; exact wuint_on p B v xs n w0 w hw hb hB hn hl
theorem whash_on (p B : Nat) (v : Value) (xs : List Int) (f : Nat → Int) (w0 w : World) (hw : WAt w p v xs) (hb : Below B w0 w) (hB : B ≤ p) (hl : xs.length + 32 ≤ 140737488355328) :
    Calls Tryz.prog 170 #[.pointer (some ⟨p, 0, none⟩), .agg (rowOf .u8 32 f)] w fun e w' => e = .returned (.pointer (some ⟨p, 0, none⟩)) ∧ ∃ v', WAt w' p v' (xs ++ rowL 32 f) ∧ Below B w0 w' :=
  (whash_any p v xs f w hw hl).mono fun _ _ h => wpost_on h hw hb hB
theorem wdone_on (p B : Nat) (v : Value) (xs : List Int) (w0 w : World) (hw : WAt w p v xs) (hb : Below B w0 w) (hB : B ≤ p) (hl : xs.length ≤ 140737488355328) :
    Calls Tryz.prog 168 #[.pointer (some ⟨p, 0, none⟩)] w fun e w' => ∃ v', e = .returned v' ∧ BytesIn w' v' xs ∧ Below B w0 w' :=
  (done_any p v xs w hw hl).mono fun _ _ ⟨v', he, ho, hb'⟩ => ⟨v', he, owns_in ho (by unfold maxLen; omega), hb.trans (hb'.mono (by have := hw.lt; omega))⟩
theorem shSum_on (B : Nat) (v : Value) (xs : List Int) (w0 w : World) (hx : BytesIn w v xs) (hb : Below B w0 w) (hB : B ≤ w.heap.size) (he : Env w) :
    Calls Tryz.prog 103 #[v] w fun e w' => e = .returned (.agg (rowOf .u8 32 (sumF xs))) ∧ Below B w0 w' :=
  (shSum_any v xs w hx he).mono fun _ _ ⟨h1, h2⟩ => ⟨h1, hb.trans (h2.mono hB)⟩
theorem new_on (w : World) : Calls Tryz.prog 167 #[] w fun e w' => e = .returned (.pointer (some ⟨w.heap.size, 0, none⟩)) ∧ WAt w' w.heap.size (.slice none 0 0) [] ∧ Below w.heap.size w w' := new_any w
theorem vlen (n : Nat) (h : n < 18446744073709551616) : (varint n).length ≤ 10 := by rw [varint_length]; exact glen_le h
theorem row32_list (f : Nat → Int) : (rowOf .u8 32 f).toList.length = 32 := by simp [rowOf]
/-- what lies in memory while a chain's value is made: the value v in block b, the result's zeros in block r, all above the mark m -/
structure HaveM (w w' : World) (b r B : Nat) (v : Nat → Int) : Prop where
  below : Below w.heap.size w w'
  val : RowAt w' b .u8 32 65 v
  res : RowAt w' r .u8 32 65 (fun _ => 0)
  env : Env w'
  size : B ≤ w'.heap.size
  lo : 4 < B
  hb : b < B
  hr : r < B
theorem HaveM.calls {w w' w2 : World} {b r B : Nat} {v : Nat → Int} (m : HaveM w w' b r B v) (hw : w.heap.size ≤ B) (h : Below B w' w2) : HaveM w w2 b r B v :=
  ⟨m.below.trans (h.mono hw), m.val.below h m.hb, m.res.below h m.hr, m.env.below h m.lo, Nat.le_trans m.size h.size, m.lo, m.hb, m.hr⟩
theorem HaveM.put {w w' : World} {b r B : Nat} {v : Nat → Int} (m : HaveM w w' b r B v) (h : w.heap.size ≤ b ∧ b ≠ r ∧ 4 < b) (v' : Nat → Int) : HaveM w (w'.setRow b (rowOf .u8 32 v')) b r B v' :=
  ⟨below_setRow m.below h.1 _, setRow_heap _ _ _ _ _ _ m.val, (setRow_other _ _ _ _ (Ne.symm h.2.1)).trans m.res, m.env.below (B := b) (below_setRow (Below.refl _ _) (Nat.le_refl _) _) h.2.2, by simpa [World.setRow] using m.size, m.lo, m.hb, m.hr⟩
end Go.Proofs.YtanekacpalpcbaaGreatDoor
namespace Go.Proofs.YtanekacpalpcbaaGreatDoor
set_option linter.unusedVariables false
set_option linter.unusedSimpArgs false
open Go.RowKit
set_option maxRecDepth 100000
def natInts (l : List Nat) : List Int := l.map fun d : Nat => (d : Int)
theorem natInts_length (l : List Nat) : (natInts l).length = l.length := by simp [natInts]
theorem natInts_append (a b : List Nat) : natInts (a ++ b) = natInts a ++ natInts b := by simp [natInts]
theorem digs_snoc (xs : List Int) (k : Nat) (x : Int) (h : xs[k]? = some x) : digs (xs.take (k + 1)) = digs (xs.take k) ++ [x.toNat / 16, x.toNat % 16] := by
  rw [List.take_add_one, h, Option.toList_some, digs_append]
  rfl
theorem lacks_snoc (l : List Nat) (k d : Nat) (h : l[k]? = some d) : lacks (l.take (k + 1)) = lacks (l.take k) + (15 - d) := by
  rw [List.take_add_one, h, Option.toList_some, lacks_append]
  simp [lacks]
theorem wkept_below {w w' : World} {B n : Nat} {e : TypeId} {v : Value} {vs : List Value} (h : w.ownsRow B e 1 v n vs) (hb : Below w.heap.size w w') : w'.ownsRow B e 1 v n vs := by
  refine h.kept (row := none) ⟨hb.os, hb.tape, hb.output, hb.size, fun k hk _ => hb.block k hk⟩ ?_
  cases v.ownBlock <;> simp
structure DigM (w wr : World) (v : Value) (xs : List Int) (v' : Value) (l : List Nat) : Prop where
  arg : BytesIn wr v xs
  row : wr.ownsRow w.heap.size 3 1 v' (natInts l).length (intVals (natInts l))
  below : Below w.heap.size w wr
theorem DigM.grow {w wr w2 w3 : World} {v v' v2 : Value} {xs : List Int} {l m : List Nat} (h : DigM w wr v xs v' l) (hb : Below wr.heap.size wr w2) (hg : w2.grownBy w3 v'.ownBlock)
    (ho : w3.ownsRow w.heap.size 3 1 v2 (natInts l ++ natInts m).length (intVals (natInts l ++ natInts m))) (hx : BytesIn w v xs) : DigM w w3 v xs v2 (l ++ m) := by
  have h1 := (h.below.trans (hb.mono h.below.size)).grown hg (Nat.le_trans h.below.size hb.size) (fun k hk => (h.row.lt k hk).1)
  exact ⟨hx.below h1, by rw [natInts_append]; exact ho, h1⟩
end Go.Proofs.YtanekacpalpcbaaGreatDoor
namespace Go.Proofs.YtanekacpalpcbaaGreatDoor
set_option linter.unusedVariables false
set_option linter.unusedSimpArgs false
open Go.RowKit
set_option maxRecDepth 100000
structure LeafM (w w' : World) (g : Nat) (h : HS) : Prop where
  re : RowAt w' w.heap.size .u8 32 65 (fun _ => 0)
  hash : HashAt w' g h.s h.b h.n
  gg : w.heap.size < g
  bounds : 0 ≤ h.n ∧ h.n < 18446744073709551616
  below : Below w.heap.size w w'
  env : Env w'
theorem LeafM.wrote {w w' w2 : World} {g : Nat} {h : HS} (m : LeafM w w' g h) {xs : List Int} (hh : HashAt w2 g (putF h xs).s (putF h xs).b (putF h xs).n) (ho : Only g w' w2) (hc : 4 < w.heap.size) : LeafM w w2 g (putF h xs) :=
  ⟨(ho.block _ m.re.lt (by have := m.gg; omega)).trans m.re, hh, m.gg, putF_bounds h m.bounds.1 m.bounds.2 xs, m.below.trans (ho.below (by have := m.gg; omega) m.below.size), ho.env m.env (by have := m.gg; omega)⟩
theorem LeafM.calls {w w' w2 : World} {g : Nat} {h : HS} (m : LeafM w w' g h) (hb : Below w'.heap.size w' w2) : LeafM w w2 g h :=
  ⟨m.re.below hb m.re.lt, m.hash.below hb m.hash.lt, m.gg, m.bounds, m.below.trans (hb.mono m.below.size), m.env.below hb m.env.lt⟩
theorem leaf_start (w : World) (he : Env w) : LeafM w ((w.alloc (.cells (rowOf .u8 32 (fun _ => 0)) 65)).alloc (.cells (hashCells BT (fun _ => 0) 0) 312)) (w.heap.size + 1) h0 := by
  have hb : Below w.heap.size w ((w.alloc (.cells (rowOf .u8 32 (fun _ => 0)) 65)).alloc (.cells (hashCells BT (fun _ => 0) 0) 312)) := (below_alloc w _).trans ((below_alloc _ _).mono (by simp))
  refine ⟨(RowAt.new w _ _ _ _).alloc _, ?_, by omega, by decide, hb, he.below hb he.lt⟩
  have := heap_alloc_new (w.alloc (.cells (rowOf .u8 32 (fun _ => 0)) 65)) (.cells (hashCells BT (fun _ => 0) 0) 312)
  rw [shSize_alloc] at this; exact this
theorem oneAt (w : World) (g : Nat) (hg : g < w.heap.size) (x : Int) : BytesAt (w.alloc (.cells #[.int .u8 x] 5)) g (.slice (some ⟨w.heap.size, 0, none⟩) 1 1) [x] := by
  refine ⟨_, _, rfl, by simp, by simp [maxLen], .inr ⟨_, _, rfl, by omega, fun i y hi => ?_⟩⟩
  rw [Nat.zero_add, cell_of_row _ _ _ _ _ _ (heap_alloc_new w _)]
  match i, hi with
  | 0, hi => cases hi; rfl
theorem BytesAt.below' {w w' : World} {g : Nat} {v : Value} {xs : List Int} (h : BytesAt w g v xs) (hb : Below w.heap.size w w') : BytesAt w' g v xs := by
  obtain ⟨a, cap, rfl, hc, hm, hx⟩ := h
  refine ⟨a, cap, rfl, hc, hm, ?_⟩
  rcases hx with hx | ⟨ab, ao, rfl, hne, hx⟩
  · exact .inl hx
  · exact .inr ⟨ab, ao, rfl, hne, fun i y hi => (hb.cell (p := ⟨ab, ao + i, none⟩) (World.block_lt_of_cell? w _ (hx i y hi))).trans (hx i y hi)⟩
set_option maxHeartbeats 400000 in
theorem leaf_any (v : Value) (xs : List Int) (w : World) (hx : BytesIn w v xs) (he : Env w) :
    Calls Tryz.prog 90 #[v] w fun e w' => e = .returned (.agg (rowOf .u8 32 (sumF (0 :: xs)))) ∧ Below w.heap.size w w' := by
  have M := Lib.hid (leaf_start w he)
  have HE := Lib.hid (he.below (below_alloc w (.cells (rowOf .u8 32 (fun _ => 0)) 65)) he.lt)
  have HC := Lib.hid he.lt
  have HX := Lib.hid (hx.at (g := w.heap.size + 1) M.out.below (Nat.le_refl _) (by omega))
  clear he hx
  go_enter Tryz.func90, Tryz.ntmps90
  go_upto_region 1 with (fail)
  rw [zeros32]
  go_upto_region 2 with (go_at_call 164; (with_reducible refine (shNew_any _ HE.out).mono ?_); rintro e w' ⟨rfl, rfl⟩)
  generalize (w.alloc (.cells (rowOf .u8 32 (fun _ => 0)) 65)).alloc (.cells (hashCells BT (fun _ => 0) 0) 312) = w1 at *
  obtain ⟨g, hg⟩ : ∃ g, g = w.heap.size + 1 := ⟨_, rfl⟩
  rw [← hg] at M HX ⊢
  replace hg := Lib.hid hg
  clear HE
  have M1 := Lib.hid (M.out.calls (below_alloc w1 (.cells #[.int .u8 0] 5)))
  have HO1 := Lib.hid (oneAt w1 g M.out.hash.lt 0)
  have HX1 := Lib.hid (HX.out.below' (below_alloc w1 (.cells #[.int .u8 0] 5)))
  have HG := Lib.hid (show 4 < g from by have := HC.out; have := hg.out; omega)
  go_upto_region 3 with (go_at_call 165; (with_reducible refine (shWrite_any g _ _ _ [0] _ _ M1.out.hash M1.out.bounds.1 M1.out.bounds.2 HO1.out M1.out.env HG.out).mono ?_); rintro e w2 ⟨rfl, HH, HO⟩; replace HH := Lib.hid HH; replace HO := Lib.hid HO)
  have M2 := Lib.hid (M1.out.wrote HH.out HO.out HC.out)
  have HX2 := Lib.hid (HX1.out.only HO.out)
  clear M M1 HX HX1 HH HO HO1
  go_upto_region 4 with (go_at_call 165; (with_reducible refine (shWrite_any g _ _ _ xs v _ M2.out.hash M2.out.bounds.1 M2.out.bounds.2 HX2.out M2.out.env HG.out).mono ?_); rintro e w3 ⟨rfl, HH, HO⟩; replace HH := Lib.hid HH; replace HO := Lib.hid HO)
  have M3 := Lib.hid (M2.out.wrote HH.out HO.out HC.out)
  clear M2 HX2 HH HO
  go_wp2_with (first
    | (go_at_call 166; (with_reducible refine (sumM_any g _ _ _ _ M3.out.hash M3.out.bounds.1 M3.out.bounds.2 M3.out.env.consts).mono ?_); rintro e w5 ⟨rfl, HB5⟩; replace M3 := Lib.hid (M3.out.calls HB5); clear HB5)
    | (refine wpList_store_row rfl 65 (.tmp 2) (.tmp 12) rfl w.heap.size _ rfl rfl 65 _ M3.out.re (by rw [rowOf_size]; kernel_rfl) (by rw [rowOf_size, rowOf_size]) (rowOf_one _ _ _) ?_))
  refine bodyPost_ret (results_cell_row rfl _ _ w.heap.size 65 _ (0, 0) _ rfl (setRow_heap _ _ _ _ _ _ M3.out.re) Tryz.underlying65 rfl (by rw [rowOf_size]; kernel_rfl)) rfl ?_
  exact ⟨by rfl, below_setRow M3.out.below (by omega) _⟩
end Go.Proofs.YtanekacpalpcbaaGreatDoor
namespace Go.Proofs.YtanekacpalpcbaaGreatDoor
set_option linter.unusedVariables false
set_option linter.unusedSimpArgs false
open Go.RowKit
set_option maxRecDepth 100000
/-- rows of 32 bytes in memory, below the mark B; above it what calls make -/
structure HasR (w w' : World) (B : Nat) (rows : List (Nat × (Nat → Int))) : Prop where
  below : Below w.heap.size w w'
  row : ∀ p ∈ rows, RowAt w' p.1 .u8 32 65 p.2 ∧ p.1 < B
  env : Env w'
  size : B ≤ w'.heap.size
  lo : 4 < B
  wB : w.heap.size ≤ B
theorem HasR.calls {w w' w2 : World} {B : Nat} {rows : List (Nat × (Nat → Int))} (m : HasR w w' B rows) (h : Below B w' w2) : HasR w w2 B rows :=
  ⟨m.below.trans (h.mono m.wB), fun p hp => ⟨(m.row p hp).1.below h (m.row p hp).2, (m.row p hp).2⟩, m.env.below h m.lo, Nat.le_trans m.size h.size, m.lo, m.wB⟩
theorem HasR.call {w w' w2 : World} {B : Nat} {rows : List (Nat × (Nat → Int))} (m : HasR w w' B rows) (h : Below w'.heap.size w' w2) : HasR w w2 B rows := m.calls (h.mono m.size)
theorem HasR.grown {w w' w2 : World} {B n : Nat} {v : Value} {vs : List Value} {rows : List (Nat × (Nat → Int))} (m : HasR w w' B rows) (hg : w'.grownBy w2 v.ownBlock) (ho : w'.ownsRow B 5 1 v n vs) : HasR w w2 B rows :=
  m.calls ((Below.refl _ _).grown hg m.size (fun k hk => (ho.lt k hk).1))
theorem HasR.at0 {w w' : World} {B : Nat} {p : Nat × (Nat → Int)} {rows : List (Nat × (Nat → Int))} (m : HasR w w' B (p :: rows)) : RowAt w' p.1 .u8 32 65 p.2 := (m.row p (by simp)).1
theorem HasR.at1 {w w' : World} {B : Nat} {p q : Nat × (Nat → Int)} {rows : List (Nat × (Nat → Int))} (m : HasR w w' B (q :: p :: rows)) : RowAt w' p.1 .u8 32 65 p.2 := (m.row p (by simp)).1
def zF : Nat → Int := fun _ => 0
theorem zeros32' : (#[Value.int IntKind.u8 0, Value.int IntKind.u8 0, Value.int IntKind.u8 0, Value.int IntKind.u8 0, Value.int IntKind.u8 0, Value.int IntKind.u8 0, Value.int IntKind.u8 0, Value.int IntKind.u8 0, Value.int IntKind.u8 0, Value.int IntKind.u8 0, Value.int IntKind.u8 0, Value.int IntKind.u8 0, Value.int IntKind.u8 0, Value.int IntKind.u8 0, Value.int IntKind.u8 0, Value.int IntKind.u8 0, Value.int IntKind.u8 0, Value.int IntKind.u8 0, Value.int IntKind.u8 0, Value.int IntKind.u8 0, Value.int IntKind.u8 0, Value.int IntKind.u8 0, Value.int IntKind.u8 0, Value.int IntKind.u8 0, Value.int IntKind.u8 0, Value.int IntKind.u8 0, Value.int IntKind.u8 0, Value.int IntKind.u8 0, Value.int IntKind.u8 0, Value.int IntKind.u8 0, Value.int IntKind.u8 0, Value.int IntKind.u8 0] : Array Value) = rowOf .u8 32 zF := by rfl
theorem hasR2 (w : World) (f : Nat → Int) (he : Env w) : HasR w ((w.alloc (.cells (rowOf .u8 32 f) 65)).alloc (.cells (rowOf .u8 32 zF) 65)) (w.heap.size + 1 + 1) [(w.heap.size, f), (w.heap.size + 1, zF)] := by
  have hb : Below w.heap.size w ((w.alloc (.cells (rowOf .u8 32 f) 65)).alloc (.cells (rowOf .u8 32 zF) 65)) := (below_alloc w _).trans ((below_alloc _ _).mono (by simp))
  refine ⟨hb, fun p hp => ?_, he.below hb he.lt, by simp, by have := he.lt; omega, by omega⟩
  simp only [List.mem_cons, List.not_mem_nil, or_false] at hp
  rcases hp with rfl | rfl
  · exact ⟨(RowAt.new w _ _ _ _).alloc _, by simp; omega⟩
  · refine ⟨?_, by simp⟩
    have := RowAt.new (w.alloc (.cells (rowOf .u8 32 f) 65)) .u8 32 65 zF
    rw [shSize_alloc] at this; exact this
theorem hasR1 (w : World) (f : Nat → Int) (he : Env w) : HasR w (w.alloc (.cells (rowOf .u8 32 f) 65)) (w.heap.size + 1) [(w.heap.size, f)] := by
  refine ⟨below_alloc w _, fun p hp => ?_, he.below (below_alloc w _) he.lt, by simp, by have := he.lt; omega, by omega⟩
  simp only [List.mem_cons, List.not_mem_nil, or_false] at hp
  subst hp
  exact ⟨RowAt.new w _ _ _ _, by simp⟩
def noV : Value := .tuple #[.agg (rowOf .u8 32 zF), errV (some 1)]
def okV (f : Nat → Int) : Value := .tuple #[.agg (rowOf .u8 32 f), errV none]
theorem rep_get (n k : Nat) (h : k < n) : (List.replicate n 15)[k]? = some 15 := by simp [h]
end Go.Proofs.YtanekacpalpcbaaGreatDoor
namespace Go.Proofs.YtanekacpalpcbaaGreatDoor
set_option linter.unusedVariables false
set_option linter.unusedSimpArgs false
open Go.RowKit
def bytesOf (h : Nat → Int) : List Int := (List.range 32).map h
/-- the hash of a node -/
def nodeF (a b : Nat → Int) : Nat → Int := sumF (1 :: (bytesOf a ++ bytesOf b))
/-- how many leaves stand in the first part -/
def splitF (n : Nat) : Nat := 2 ^ (Lib.bitLen (n - 1) - 1)
theorem splitF_spec (n : Nat) (h : 2 ≤ n) (hn : n < 18446744073709551616) : 1 ≤ splitF n ∧ splitF n < n ∧ n ≤ 2 * splitF n ∧ 1 ≤ Lib.bitLen (n - 1) ∧ Lib.bitLen (n - 1) ≤ 64 := by
  have hb := Lib.bitLenAux_bounds 64 (n - 1) (by omega) (by omega)
  have h64 : Lib.bitLenAux 64 (n - 1) ≤ 64 := Lib.bitLenAux_le 64 (n - 1) 64 (by omega)
  unfold splitF Lib.bitLen
  obtain ⟨e, he⟩ : ∃ e, Lib.bitLenAux 64 (n - 1) = e + 1 := ⟨Lib.bitLenAux 64 (n - 1) - 1, by omega⟩
  rw [he] at hb h64 ⊢
  simp only [Nat.add_sub_cancel] at hb ⊢
  have hp : 1 ≤ 2 ^ e := Nat.one_le_two_pow
  have hs : 2 ^ (e + 1) = 2 * 2 ^ e := by rw [Nat.pow_succ, Nat.mul_comm]
  omega
def rootF (l : List (Nat → Int)) : Nat → Int :=
  if l.length = 1 then l.getD 0 (fun _ => 0)
  else if _h : 1 ≤ splitF l.length ∧ splitF l.length < l.length then nodeF (rootF (l.take (splitF l.length))) (rootF (l.drop (splitF l.length)))
  else sumF []
termination_by l.length
decreasing_by
  · rw [List.length_take]; omega
  · rw [List.length_drop]; omega
def pathF (l : List (Nat → Int)) (i : Nat) : List (Nat → Int) :=
  if _h : 1 ≤ splitF l.length ∧ splitF l.length < l.length then
    if i < splitF l.length then pathF (l.take (splitF l.length)) i ++ [rootF (l.drop (splitF l.length))] else pathF (l.drop (splitF l.length)) (i - splitF l.length) ++ [rootF (l.take (splitF l.length))]
  else []
termination_by l.length
decreasing_by
  · rw [List.length_take]; omega
  · rw [List.length_drop]; omega
def turnsF (i n : Nat) : List Bool :=
  if _h : 1 ≤ splitF n ∧ splitF n < n then
    if i < splitF n then false :: turnsF i (splitF n) else true :: turnsF (i - splitF n) (n - splitF n)
  else []
termination_by n
decreasing_by
  · omega
  · omega
theorem splitF_one : splitF 1 = 1 := by decide
theorem splitF_zero : splitF 0 = 1 := by decide
theorem rootF_nil : rootF [] = sumF [] := by
  rw [rootF, if_neg (by simp), dif_neg (by simp)]
theorem rootF_one (l : List (Nat → Int)) (h : l.length = 1) : rootF l = l.getD 0 (fun _ => 0) := by rw [rootF, if_pos h]
theorem rootF_step (l : List (Nat → Int)) (h : 2 ≤ l.length) (hs : 1 ≤ splitF l.length ∧ splitF l.length < l.length) :
    rootF l = nodeF (rootF (l.take (splitF l.length))) (rootF (l.drop (splitF l.length))) := by rw [rootF, if_neg (by omega), dif_pos hs]
theorem pathF_one (l : List (Nat → Int)) (h : l.length = 1) (i : Nat) : pathF l i = [] := by
  rw [pathF, dif_neg]
  rw [h, splitF_one]; omega
theorem pathF_lo (l : List (Nat → Int)) (hs : 1 ≤ splitF l.length ∧ splitF l.length < l.length) (i : Nat) (h : i < splitF l.length) : pathF l i = pathF (l.take (splitF l.length)) i ++ [rootF (l.drop (splitF l.length))] := by
  rw [pathF, dif_pos hs, if_pos h]
theorem pathF_hi (l : List (Nat → Int)) (hs : 1 ≤ splitF l.length ∧ splitF l.length < l.length) (i : Nat) (h : ¬ i < splitF l.length) : pathF l i = pathF (l.drop (splitF l.length)) (i - splitF l.length) ++ [rootF (l.take (splitF l.length))] := by
  rw [pathF, dif_pos hs, if_neg h]
theorem turnsF_one (i : Nat) : turnsF i 1 = [] := by rw [turnsF, dif_neg]; rw [splitF_one]; omega
theorem turnsF_lo (i n : Nat) (hs : 1 ≤ splitF n ∧ splitF n < n) (h : i < splitF n) : turnsF i n = false :: turnsF i (splitF n) := by rw [turnsF, dif_pos hs, if_pos h]
theorem turnsF_hi (i n : Nat) (hs : 1 ≤ splitF n ∧ splitF n < n) (h : ¬ i < splitF n) : turnsF i n = true :: turnsF (i - splitF n) (n - splitF n) := by rw [turnsF, dif_pos hs, if_neg h]
def foldStep (s : Nat → Int) (x : Bool × (Nat → Int)) : Nat → Int := if x.1 then nodeF x.2 s else nodeF s x.2
def foldT (s : Nat → Int) (l : List (Bool × (Nat → Int))) : Nat → Int := l.foldl foldStep s
theorem path_turns : ∀ (n : Nat) (l : List (Nat → Int)) (i : Nat), l.length = n → n < 18446744073709551616 → i < n → (pathF l i).length = (turnsF i n).length := by
  intro n
  induction n using Nat.strongRecOn with
  | _ n ih =>
    intro l i hl hn hi
    by_cases h1 : n = 1
    · subst h1; rw [pathF_one l hl, turnsF_one]; rfl
    · have hs := splitF_spec n (by omega) hn
      have hs2 : 1 ≤ splitF l.length ∧ splitF l.length < l.length := by rw [hl]; exact ⟨hs.1, hs.2.1⟩
      by_cases hlt : i < splitF n
      · rw [pathF_lo l hs2 i (by rw [hl]; exact hlt), turnsF_lo i n ⟨hs.1, hs.2.1⟩ hlt, List.length_append, List.length_cons, hl, ih (splitF n) hs.2.1 _ i (by rw [List.length_take]; omega) (by omega) hlt]
        rfl
      · rw [pathF_hi l hs2 i (by rw [hl]; exact hlt), turnsF_hi i n ⟨hs.1, hs.2.1⟩ hlt, List.length_append, List.length_cons, hl, ih (n - splitF n) (by omega) _ (i - splitF n) (by rw [List.length_drop]; omega) (by omega) (by omega)]
        rfl
theorem path_root : ∀ (n : Nat) (l : List (Nat → Int)) (i : Nat), l.length = n → n < 18446744073709551616 → i < n → foldT (l.getD i (fun _ => 0)) ((turnsF i n).reverse.zip (pathF l i)) = rootF l := by
  intro n
  induction n using Nat.strongRecOn with
  | _ n ih =>
    intro l i hl hn hi
    by_cases h1 : n = 1
    · subst h1
      obtain rfl : i = 0 := by omega
      rw [pathF_one l hl, turnsF_one, rootF_one l hl]; rfl
    · have hs := splitF_spec n (by omega) hn
      have hs2 : 1 ≤ splitF l.length ∧ splitF l.length < l.length := by rw [hl]; exact ⟨hs.1, hs.2.1⟩
      by_cases hlt : i < splitF n
      · have hlk : (l.take (splitF n)).length = splitF n := by rw [List.length_take]; omega
        have ih1 := ih (splitF n) hs.2.1 (l.take (splitF n)) i hlk (by omega) hlt
        have pt := path_turns (splitF n) (l.take (splitF n)) i hlk (by omega) hlt
        rw [pathF_lo l hs2 i (by rw [hl]; exact hlt), turnsF_lo i n ⟨hs.1, hs.2.1⟩ hlt, rootF_step l (by omega) hs2, hl, List.reverse_cons, List.zip_append (by rw [List.length_reverse, pt]), foldT, List.foldl_append]
        have e : l.getD i (fun _ => 0) = (l.take (splitF n)).getD i (fun _ => 0) := by
          simp only [List.getD, List.getElem?_take, if_pos hlt]
        unfold foldT at ih1
        rw [e, ih1]
        rfl
      · have hlk : (l.drop (splitF n)).length = n - splitF n := by rw [List.length_drop]; omega
        have ih1 := ih (n - splitF n) (by omega) (l.drop (splitF n)) (i - splitF n) hlk (by omega) (by omega)
        have pt := path_turns (n - splitF n) (l.drop (splitF n)) (i - splitF n) hlk (by omega) (by omega)
        rw [pathF_hi l hs2 i (by rw [hl]; exact hlt), turnsF_hi i n ⟨hs.1, hs.2.1⟩ hlt, rootF_step l (by omega) hs2, hl, List.reverse_cons, List.zip_append (by rw [List.length_reverse, pt]), foldT, List.foldl_append]
        have e : l.getD i (fun _ => 0) = (l.drop (splitF n)).getD (i - splitF n) (fun _ => 0) := by
          simp only [List.getD, List.getElem?_drop, show splitF n + (i - splitF n) = i by omega]
        unfold foldT at ih1
        rw [e, ih1]
        rfl
theorem path_depth : ∀ (m : Nat) (l : List (Nat → Int)) (i : Nat), l.length ≤ 2 ^ m → l.length < 18446744073709551616 → i < l.length → (pathF l i).length ≤ m := by
  intro m
  induction m with
  | zero =>
    intro l i hl _ hi
    rw [pathF_one l (by omega)]; simp
  | succ m ih =>
    intro l i hl hn hi
    by_cases h1 : l.length = 1
    · rw [pathF_one l h1]; simp
    · have hs := splitF_spec l.length (by omega) hn
      have hk : splitF l.length ≤ 2 ^ m := by
        have h2 : splitF l.length < 2 ^ (m + 1) := by omega
        unfold splitF at h2 ⊢
        have h3 := (Nat.pow_lt_pow_iff_right (a := 2) (by omega)).1 h2
        exact Nat.pow_le_pow_right (by omega) (by omega)
      by_cases hlt : i < splitF l.length
      · have hlk : (l.take (splitF l.length)).length = splitF l.length := by rw [List.length_take]; omega
        rw [pathF_lo l ⟨hs.1, hs.2.1⟩ i hlt, List.length_append]
        have := ih (l.take (splitF l.length)) i (by omega) (by omega) (by omega)
        simp only [List.length_cons, List.length_nil]; omega
      · have hlk : (l.drop (splitF l.length)).length = l.length - splitF l.length := by rw [List.length_drop]
        rw [pathF_hi l ⟨hs.1, hs.2.1⟩ i hlt, List.length_append]
        have := ih (l.drop (splitF l.length)) (i - splitF l.length) (by omega) (by omega) (by omega)
        simp only [List.length_cons, List.length_nil]; omega
end Go.Proofs.YtanekacpalpcbaaGreatDoor
namespace Go.Proofs
set_option linter.unusedVariables false
set_option linter.unusedSimpArgs false
open Go.Shelf
def Tryz.lays125_ren : Go.Shelf.Ren := ⟨fun | 125 => 146 | 128 => 217 | 129 => 218 | n => n, fun | 3 => 3 | 4 => 4 | 5 => 5 | 9 => 9 | 46 => 38 | 51 => 256 | 53 => 138 | n => n, fun | n => n⟩
theorem Tryz.lays125 : Go.Proofs.Lays.n125 Tryz.prog Tryz.lays125_ren := {
  mixed := by kernel_rfl
  f125 := Tryz.func146.trans (congrArg some (by kernel_rfl))
  f128 := Tryz.func217.trans (congrArg some (by kernel_rfl))
  f129 := Tryz.func218.trans (congrArg some (by kernel_rfl))
  t3 := Tryz.underlying3
  a3 := Tryz.isAgg3
  z3 := Tryz.sizeOf3
  v3 := Tryz.zeroValue3
  t4 := Tryz.underlying4
  a4 := Tryz.isAgg4
  z4 := Tryz.sizeOf4
  v4 := Tryz.zeroValue4
  t5 := Tryz.underlying5
  a5 := Tryz.isAgg5
  z5 := Tryz.sizeOf5
  v5 := Tryz.zeroValue5
  t9 := Tryz.underlying9
  a9 := Tryz.isAgg9
  z9 := Tryz.sizeOf9
  v9 := Tryz.zeroValue9
  t46 := Tryz.underlying38
  a46 := Tryz.isAgg38
  z46 := Tryz.sizeOf38
  v46 := Tryz.zeroValue38
  t51 := Tryz.underlying256
  a51 := Tryz.isAgg256
  z51 := Tryz.sizeOf256
  v51 := Tryz.zeroValue256
  t53 := Tryz.underlying138
  a53 := Tryz.isAgg138
  z53 := Tryz.sizeOf138
  v53 := Tryz.zeroValue138 }
theorem Tryz.bits_Len (x : Int) (w : World) (h0 : 0 ≤ x) (h1 : x ≤ 18446744073709551615) :
    Calls Tryz.prog 146 #[.int .u64 x] w fun e w' => e = .returned (.int .i64 (Lib.bitLen x.toNat)) ∧ w' = w := Any.bits_Len Tryz.lays125 x w h0 h1
end Go.Proofs

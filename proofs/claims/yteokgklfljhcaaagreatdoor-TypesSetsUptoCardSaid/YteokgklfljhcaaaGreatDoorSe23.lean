/- Part 23 of the proof. -/
import Derived.Laws.MakeOwn
import Derived.Test.YteokgklfljhcaaaGreatDoorSe1
import Derived.Test.YteokgklfljhcaaaGreatDoorSe2
import Derived.Test.YteokgklfljhcaaaGreatDoorSe8
import Derived.Test.YteokgklfljhcaaaGreatDoorSe13
import Derived.Test.YteokgklfljhcaaaGreatDoorSe14
import Derived.Test.YteokgklfljhcaaaGreatDoorSe16
import Derived.Test.YteokgklfljhcaaaGreatDoorSe22
namespace Go.Proofs.YteokgklfljhcaaaGreatDoor
set_option linter.unusedVariables false
set_option linter.unusedSimpArgs false
open Go.RowKit
set_option maxRecDepth 100000
structure LeafM (w w' : World) (g : Nat) (h : HS) : Prop where
  re : RowAt w' w.heap.size .u8 32 23 (fun _ => 0)
  hash : HashAt w' g h.s h.b h.n
  gg : w.heap.size < g
  bounds : 0 ≤ h.n ∧ h.n < 18446744073709551616
  below : Below w.heap.size w w'
  env : Env w'
theorem LeafM.wrote {w w' w2 : World} {g : Nat} {h : HS} (m : LeafM w w' g h) {xs : List Int} (hh : HashAt w2 g (putF h xs).s (putF h xs).b (putF h xs).n) (ho : Only g w' w2) (hc : 2 < w.heap.size) : LeafM w w2 g (putF h xs) :=
  ⟨(ho.block _ m.re.lt (by have := m.gg; omega)).trans m.re, hh, m.gg, putF_bounds h m.bounds.1 m.bounds.2 xs, m.below.trans (ho.below (by have := m.gg; omega) m.below.size), ho.env m.env (by have := m.gg; omega)⟩
theorem LeafM.calls {w w' w2 : World} {g : Nat} {h : HS} (m : LeafM w w' g h) (hb : Below w'.heap.size w' w2) : LeafM w w2 g h :=
  ⟨m.re.below hb m.re.lt, m.hash.below hb m.hash.lt, m.gg, m.bounds, m.below.trans (hb.mono m.below.size), m.env.below hb m.env.lt⟩
theorem leaf_start (w : World) (he : Env w) : LeafM w ((w.alloc (.cells (rowOf .u8 32 (fun _ => 0)) 23)).alloc (.cells (hashCells BT (fun _ => 0) 0) 210)) (w.heap.size + 1) h0 := by
  have hb : Below w.heap.size w ((w.alloc (.cells (rowOf .u8 32 (fun _ => 0)) 23)).alloc (.cells (hashCells BT (fun _ => 0) 0) 210)) := (below_alloc w _).trans ((below_alloc _ _).mono (by simp))
  refine ⟨(RowAt.new w _ _ _ _).alloc _, ?_, by omega, by decide, hb, he.below hb he.lt⟩
  have := heap_alloc_new (w.alloc (.cells (rowOf .u8 32 (fun _ => 0)) 23)) (.cells (hashCells BT (fun _ => 0) 0) 210)
  rw [shSize_alloc] at this; exact this
theorem oneAt (w : World) (g : Nat) (hg : g < w.heap.size) (x : Int) : BytesAt (w.alloc (.cells #[.int .u8 x] 5)) g (.slice (some ⟨w.heap.size, 0, none⟩) 1 1) [x] := by
  refine ⟨_, _, rfl, by simp, by simp [maxLen], .inr ⟨_, _, rfl, by omega, fun i y hi => ?_⟩⟩
  rw [Nat.zero_add, cell_of_row _ _ _ _ _ _ (heap_alloc_new w _)]
  match i, hi with
  | 0, hi => cases hi; rfl
theorem BytesAt.below' {w w' : World} {g : Nat} {v : Value} {xs : List Int} (h : BytesAt w g v xs) (hb : Below w.heap.size w w') : BytesAt w' g v xs := by
  obtain ⟨a, cap, rfl, hc, hm, hx⟩ := h
  refine ⟨a, cap, rfl, hc, hm, ?_⟩
  rcases hx with hx | ⟨ab, ao, rfl, hne, hx⟩
  · exact .inl hx
  · exact .inr ⟨ab, ao, rfl, hne, fun i y hi => (hb.cell (p := ⟨ab, ao + i, none⟩) (World.block_lt_of_cell? w _ (hx i y hi))).trans (hx i y hi)⟩
set_option maxHeartbeats 400000 in
theorem leaf_any (v : Value) (xs : List Int) (w : World) (hx : BytesIn w v xs) (he : Env w) :
    Calls Tryz.prog 49 #[v] w fun e w' => e = .returned (.agg (rowOf .u8 32 (sumF (0 :: xs)))) ∧ Below w.heap.size w w' := by
  have M := Lib.hid (leaf_start w he)
  have HE := Lib.hid (he.below (below_alloc w (.cells (rowOf .u8 32 (fun _ => 0)) 23)) he.lt)
  have HC := Lib.hid he.lt
  have HX := Lib.hid (hx.at (g := w.heap.size + 1) M.out.below (Nat.le_refl _) (by omega))
  clear he hx
  go_enter Tryz.func49, Tryz.ntmps49
  go_upto_region 1 with (fail)
  rw [zeros32]
  go_upto_region 2 with (go_at_call 98; (with_reducible refine (shNew_any _ HE.out).mono ?_); rintro e w' ⟨rfl, rfl⟩)
  generalize (w.alloc (.cells (rowOf .u8 32 (fun _ => 0)) 23)).alloc (.cells (hashCells BT (fun _ => 0) 0) 210) = w1 at *
  obtain ⟨g, hg⟩ : ∃ g, g = w.heap.size + 1 := ⟨_, rfl⟩
  rw [← hg] at M HX ⊢
  replace hg := Lib.hid hg
  clear HE
  have M1 := Lib.hid (M.out.calls (below_alloc w1 (.cells #[.int .u8 0] 5)))
  have HO1 := Lib.hid (oneAt w1 g M.out.hash.lt 0)
  have HX1 := Lib.hid (HX.out.below' (below_alloc w1 (.cells #[.int .u8 0] 5)))
  have HG := Lib.hid (show 2 < g from by have := HC.out; have := hg.out; omega)
  go_upto_region 3 with (go_at_call 99; (with_reducible refine (shWrite_any g _ _ _ [0] _ _ M1.out.hash M1.out.bounds.1 M1.out.bounds.2 HO1.out M1.out.env HG.out).mono ?_); rintro e w2 ⟨rfl, HH, HO⟩; replace HH := Lib.hid HH; replace HO := Lib.hid HO)
  have M2 := Lib.hid (M1.out.wrote HH.out HO.out HC.out)
  have HX2 := Lib.hid (HX1.out.only HO.out)
  clear M M1 HX HX1 HH HO HO1
  go_upto_region 4 with (go_at_call 99; (with_reducible refine (shWrite_any g _ _ _ xs v _ M2.out.hash M2.out.bounds.1 M2.out.bounds.2 HX2.out M2.out.env HG.out).mono ?_); rintro e w3 ⟨rfl, HH, HO⟩; replace HH := Lib.hid HH; replace HO := Lib.hid HO)
  have M3 := Lib.hid (M2.out.wrote HH.out HO.out HC.out)
  clear M2 HX2 HH HO
  go_wp2_with (first
    | (go_at_call 100; (with_reducible refine (sumM_any g _ _ _ _ M3.out.hash M3.out.bounds.1 M3.out.bounds.2 M3.out.env.consts).mono ?_); rintro e w5 ⟨rfl, HB5⟩; replace M3 := Lib.hid (M3.out.calls HB5); clear HB5)
    | (refine wpList_store_row rfl 23 (.tmp 2) (.tmp 12) rfl w.heap.size _ rfl rfl 23 _ M3.out.re (by rw [rowOf_size]; kernel_rfl) (by rw [rowOf_size, rowOf_size]) (rowOf_one _ _ _) ?_))
  refine bodyPost_ret (results_cell_row rfl _ _ w.heap.size 23 _ (0, 0) _ rfl (setRow_heap _ _ _ _ _ _ M3.out.re) Tryz.underlying23 rfl (by rw [rowOf_size]; kernel_rfl)) rfl ?_
  exact ⟨by rfl, below_setRow M3.out.below (by omega) _⟩
end Go.Proofs.YteokgklfljhcaaaGreatDoor
namespace Go.Proofs.YteokgklfljhcaaaGreatDoor
set_option linter.unusedVariables false
set_option linter.unusedSimpArgs false
open Go.RowKit
set_option maxRecDepth 100000
set_option linter.unusedSimpArgs false
set_option linter.unusedVariables false
/-- block g has room for n hashes; the first m are L -/
def Lv11 (w : World) (g n m : Nat) (L : Nat → Nat → Int) : Prop := ∃ cs : Array Value, w.heap[g]? = some (.cells cs 23 (0, 0)) ∧ cs.size = n * 32 ∧ ∀ i, i < m → ∀ j, j < 32 → cs[i * 32 + j]? = some (.int .u8 (L i j))
theorem Lv11.put {w : World} {g n m : Nat} {L : Nat → Nat → Int} (h : Lv11 w g n m L) (hm : m < n) : Lv11 (w.setCells g (m * 32) (rowOf .u8 32 (L m)).toList) g n (m + 1) L := by
  obtain ⟨cs, h1, h2, h3⟩ := h
  have hl : (rowOf .u8 32 (L m)).toList.length = 32 := (rowOf_list _ _ _).2
  obtain ⟨cs', a, b, c⟩ := setCells11 g 23 (rowOf .u8 32 (L m)).toList (m * 32) w cs h1 (by rw [hl, h2]; omega)
  refine ⟨cs', a, b.trans h2, fun k hk j hj => ?_⟩
  rw [c, hl]
  by_cases e : k = m
  · subst e
    rw [if_pos (by omega), show k * 32 + j - k * 32 = j by omega, Array.getElem?_toList, rowOf_get _ _ _ _ hj]
  · rw [if_neg (by omega)]
    exact h3 k (by omega) j hj
theorem Lv11.below {w w' : World} {B g n m : Nat} {L : Nat → Nat → Int} (h : Lv11 w g n m L) (hb : Below B w w') (hg : g < B) : Lv11 w' g n m L := by
  obtain ⟨cs, h1, h2, h3⟩ := h
  exact ⟨cs, (hb.block g hg).trans h1, h2, h3⟩
theorem Lv11.lt {w : World} {g n m : Nat} {L : Nat → Nat → Int} (h : Lv11 w g n m L) : g < w.heap.size := by
  obtain ⟨cs, h1, _⟩ := h
  exact (Array.getElem?_eq_some_iff.1 h1).1
theorem Lv11.there {w : World} {g n m : Nat} {L : Nat → Nat → Int} (h : Lv11 w g n m L) (i : Nat) (hi : i < n) {s : Nat} (hs : s = 32) : w.there g (i * 32) s := fun j hj => by
  obtain ⟨cs, h1, h2, h3⟩ := h
  subst hs
  have : i * 32 + j < cs.size := by rw [h2]; omega
  exact ⟨by rw [cell_of_row _ _ _ _ _ _ h1]; simp [this], frozen_of_row _ _ _ _ _ h1⟩
theorem Lv11.hashes {w : World} {g n : Nat} {L : Nat → Nat → Int} {hs : List (Nat → Int)} (h : Lv11 w g n n L) (hn : n ≤ maxLen) (hl : hs.length = n) (hL : ∀ i, i < n → hs.getD i zeroH = L i) : HashesIn w (.slice (some ⟨g, 0, none⟩) n n) hs := by
  have hlt := h.lt
  obtain ⟨cs, h1, h2, h3⟩ := h
  refine ⟨_, n, by rw [hl], by omega, by omega, .inr ⟨g, 0, rfl, hlt, fun i hi j v hv => ?_⟩⟩
  rw [hl] at hi
  have hj : j < 32 := by have := (List.getElem?_eq_some_iff.1 hv).1; rw [(rowOf_list _ _ _).2] at this; exact this
  rw [hL i hi, Array.getElem?_toList, rowOf_get _ _ _ _ hj] at hv
  rw [cell_of_row _ _ _ _ _ _ h1, Nat.zero_add, h3 i hi j hj]; exact hv
theorem infoH11 : (Tryz.prog.info? 23).map (fun i => (i.zero, i.size, i.bytes)) = some (some (.agg (rowOf .u8 32 (fun _ => 0))), 32, 32) := by kernel_rfl
theorem makeH11 (n : Nat) (hn : n ≤ 1048576) : ∃ C : Array Value, C.size = n * 32 ∧ ∀ w : World, (Instr.makeSlice 82 (.int .i64 (n : Int)) (.int .i64 (n : Int))).run Tryz.prog w = .ok (.slice (some ⟨w.heap.size, 0, none⟩) n n) (w.alloc (.cells C 23)) := by
  obtain ⟨i0, hi, hz0, hz1, hz2⟩ := info_parts infoH11
  refine ⟨madeCells (Value.agg (rowOf .u8 32 (fun _ => 0))).cells (n * 32), size_madeCells _ _, fun w => ?_⟩
  have := run_make w 82 23 i0 _ Tryz.underlying82 hi hz0 .i64 .i64 (n : Int) (n : Int) (by omega) (by omega) (by rw [hz2]; omega) (by omega)
  rw [Int.toNat_natCast, hz1] at this
  exact this
structure HsM (w wr : World) (g n m : Nat) (L : Nat → Nat → Int) : Prop where
  below : Below w.heap.size w wr
  res : wr.heap[w.heap.size]? = some (.cells (rowOf .u8 32 (fun _ => 0)) 23 (0, 0))
  lv : Lv11 wr g n m L
  hg : w.heap.size < g
theorem HsM.call {w wr w2 : World} {g n m : Nat} {L : Nat → Nat → Int} (h : HsM w wr g n m L) (hb : Below wr.heap.size wr w2) : HsM w w2 g n m L :=
  ⟨h.below.trans (hb.mono h.below.size), (hb.block _ (bkT_lt h.res)).trans h.res, h.lv.below hb h.lv.lt, h.hg⟩
theorem HsM.put {w wr : World} {g n m : Nat} {L : Nat → Nat → Int} (h : HsM w wr g n m L) (hm : m < n) {f : Nat → Int} (hf : L m = f) : HsM w (wr.setCells g (m * 32) (rowOf .u8 32 f).toList) g n (m + 1) L := by
  subst hf
  have ho := only_cells11 g (rowOf .u8 32 (L m)).toList (m * 32) wr
  have hg := h.hg
  exact ⟨h.below.trans (ho.below (by omega) h.below.size), (ho.block _ (bkT_lt h.res) (by omega)).trans h.res, h.lv.put hm, h.hg⟩
theorem HsM.start {w : World} {n : Nat} {C : Array Value} (L : Nat → Nat → Int) (hC : C.size = n * 32) (w1 : World) (h1 : w.alloc (.cells (rowOf .u8 32 (fun _ => 0)) 23) = w1) : HsM w (w1.alloc (.cells C 23)) w1.heap.size n 0 L := by
  have b1 := below_alloc w (.cells (rowOf .u8 32 (fun _ => 0)) 23)
  have h2 := heap_alloc_new w (.cells (rowOf .u8 32 (fun _ => 0)) 23)
  have hs : w1.heap.size = w.heap.size + 1 := by rw [← h1]; simp
  rw [h1] at b1 h2
  have b2 := below_alloc w1 (.cells C 23)
  exact ⟨b1.trans (b2.mono (by omega)), (b2.block _ (by omega)).trans h2, ⟨C, heap_alloc_new _ _, hC, fun i hi => by omega⟩, by omega⟩
structure HrM (w wr : World) (v : Value) (ps : List (Nat → Int)) : Prop where
  below : Below w.heap.size w wr
  res : wr.heap[w.heap.size]? = some (.cells (rowOf .u8 32 (fun _ => 0)) 23 (0, 0))
  own : wr.ownsRow (w.heap.size + 1) 23 32 v ps.length (flatC ps)
  size : w.heap.size + 1 ≤ wr.heap.size
theorem own_keep11 {w w' : World} {B n : Nat} {v : Value} {vs : List Value} (h : w.ownsRow B 23 32 v n vs) (hb : Below w.heap.size w w') : w'.ownsRow B 23 32 v n vs := own_stay11 h fun k hk => hb.block k (h.lt k hk).2
theorem HrM.call {w wr w2 : World} {v : Value} {ps : List (Nat → Int)} (m : HrM w wr v ps) (h : Below wr.heap.size wr w2) : HrM w w2 v ps :=
  ⟨m.below.trans (h.mono m.below.size), (h.block _ (bkT_lt m.res)).trans m.res, own_keep11 m.own h, Nat.le_trans m.size h.size⟩
theorem flat11_app (ps : List (Nat → Int)) (f : Nat → Int) : flatC ps ++ flatC [f] = flatC (ps ++ [f]) := by
  induction ps with
  | nil => rfl
  | cons p r ih => show ((rowOf .u8 32 p).toList ++ flatC r) ++ flatC [f] = (rowOf .u8 32 p).toList ++ flatC (r ++ [f]); rw [List.append_assoc, ih]
theorem HrM.more {w wr w2 : World} {v v' : Value} {ps : List (Nat → Int)} {f : Nat → Int} (m : HrM w wr v ps) (hg : wr.grownBy w2 v.ownBlock) (ho : w2.ownsRow (w.heap.size + 1) 23 32 v' (ps.length + [f].length) (flatC ps ++ flatC [f])) : HrM w w2 v' (ps ++ [f]) := by
  have hsz := m.size
  have hb : ∀ j, j < w.heap.size + 1 → w2.heap[j]? = wr.heap[j]? := fun j hj => hg.block j (by omega) (fun e => by have := (m.own.lt j e.symm).1; omega)
  refine ⟨⟨hg.os.trans m.below.os, hg.tape.trans m.below.tape, hg.output.trans m.below.output, Nat.le_trans m.below.size hg.size, fun j hj => (hb j (by omega)).trans (m.below.block j hj)⟩, (hb _ (by omega)).trans m.res, ?_, Nat.le_trans hsz hg.size⟩
  rw [List.length_append]
  rw [flat11_app] at ho
  exact ho
theorem one_hash11 {w : World} {g : Nat} {f : Nat → Int} (h : w.heap[g]? = some (.cells (rowOf .u8 32 f) 23 (0, 0))) : HashesIn w (.slice (some ⟨g, 0, none⟩) 1 1) [f] := by
  refine ⟨_, _, rfl, Nat.le_refl _, by unfold maxLen; decide, .inr ⟨g, 0, rfl, bkT_lt h, fun i hi j v hv => ?_⟩⟩
  have hi0 : i = 0 := by simpa using hi
  subst hi0
  have := rowT_range h j v hv
  simpa using this
theorem flat_wide11 {w : World} {B n : Nat} {v : Value} {vs : List Value} (h : w.ownsRow B 23 32 v n vs) : ∃ a c, v = .slice a n c := by
  rcases h.2 with ⟨rfl, h0⟩ | ⟨g, c, _, rfl, _⟩
  · exact ⟨none, 0, by rw [h0]⟩
  · exact ⟨_, c, rfl⟩
theorem map_getD11 {α : Type} {l : List α} {F : α → Nat → Int} {i : Nat} {x : α} (h : l[i]? = some x) : (l.map F).getD i zeroH = F x := by simp [List.getD, h]
end Go.Proofs.YteokgklfljhcaaaGreatDoor
namespace Go.Proofs.YteokgklfljhcaaaGreatDoor
set_option linter.unusedVariables false
set_option linter.unusedSimpArgs false
open Go.RowKit
set_option linter.unusedVariables false
def Kept (X : World → Prop) : Prop := ∀ a b : World, X a → Below a.heap.size a b → X b
structure Kp (w0 w : World) (X : World → Prop) : Prop where
  below : Below w0.heap.size w0 w
  x : X w
  kept : Kept X
theorem Kp.start (w : World) : Kp w w (fun _ => True) := ⟨Below.refl _ _, trivial, fun _ _ h _ => h⟩
theorem Kp.call {w0 w w' : World} {X : World → Prop} (m : Kp w0 w X) (h : Below w.heap.size w w') : Kp w0 w' X := ⟨m.below.trans (h.mono m.below.size), m.kept _ _ m.x h, m.kept⟩
theorem Kp.add {w0 w : World} {X Y : World → Prop} (m : Kp w0 w X) (hy : Y w) (hk : Kept Y) : Kp w0 w (fun w => X w ∧ Y w) := ⟨m.below, ⟨m.x, hy⟩, fun a b h hb => ⟨m.kept a b h.1 hb, hk a b h.2 hb⟩⟩
theorem Kp.new {w0 w : World} {X : World → Prop} (m : Kp w0 w X) (o : Obj) : Kp w0 (w.alloc o) X := m.call (below_alloc w o)
theorem kept_blk (g : Nat) (o : Obj) : Kept (fun w => w.heap[g]? = some o) := fun a b h hb => (hb.block g (Array.getElem?_eq_some_iff.1 h).1).trans h
theorem Kept.and {X Y : World → Prop} (h : Kept X) (k : Kept Y) : Kept (fun w => X w ∧ Y w) := fun a b x hb => ⟨h a b x.1 hb, k a b x.2 hb⟩
end Go.Proofs.YteokgklfljhcaaaGreatDoor
namespace Go.Proofs.YteokgklfljhcaaaGreatDoor
set_option linter.unusedVariables false
set_option linter.unusedSimpArgs false
open Go.RowKit
set_option maxRecDepth 100000
set_option linter.unusedSimpArgs false
set_option linter.unusedVariables false
structure CmFl (c : Cm) : Prop where
  h : -9223372036854775808 ≤ c.height ∧ c.height ≤ 9223372036854775807
  r : -9223372036854775808 ≤ c.round ∧ c.round ≤ 9223372036854775807
/-- a header's values -/
structure Hd where
  CH : ByteArray
  HT : Int
  TM : Int
  LA : Nat → Int
  AP : Nat → Int
  TX : Nat → Int
  VA : Nat → Int
  NX : Nat → Int
  PR : Int
structure HdFl (h : Hd) : Prop where
  ht : -9223372036854775808 ≤ h.HT ∧ h.HT ≤ 9223372036854775807
  tm : -9223372036854775808 ≤ h.TM ∧ h.TM ≤ 9223372036854775807
  pr : -9223372036854775808 ≤ h.PR ∧ h.PR ≤ 9223372036854775807
  n : h.CH.size ≤ 140737488351232
end Go.Proofs.YteokgklfljhcaaaGreatDoor
namespace Go.Proofs.YteokgklfljhcaaaGreatDoor
set_option linter.unusedVariables false
set_option linter.unusedSimpArgs false
open Go.RowKit
set_option maxRecDepth 100000
set_option linter.unusedSimpArgs false
set_option linter.unusedVariables false
def z32 : Nat → Int := fun _ => 0
/-- what lies in memory while a block is looked at -/
structure CkX (q : Nat) (HC CC : Array Value) (tv : Value) (ts : List Tb) (w : World) : Prop where
  h : w.heap[q]? = some (.cells (bkD HC tv CC) 31 (0, 0))
  t : TbIn w tv ts
  tb : ∀ t ∈ ts, BytesIn w t.bv t.bs
  e : Env w
end Go.Proofs.YteokgklfljhcaaaGreatDoor
namespace Go.Proofs.YteokgklfljhcaaaGreatDoor
set_option linter.unusedVariables false
set_option linter.unusedSimpArgs false
open Go.RowKit
set_option maxRecDepth 100000
set_option linter.unusedSimpArgs false
set_option linter.unusedVariables false
structure LcM (w : World) (q q3 : Nat) (B : Array Value) (wr : World) : Prop where
  below : Below w.heap.size w wr
  h : wr.heap[q]? = some (.cells B 31 (0, 0))
  z : wr.heap[q3]? = some (.cells (rowOf .u8 32 z32) 23 (0, 0))
  hq : w.heap.size ≤ q
  hq3 : q < q3
theorem LcM.call {w : World} {q q3 : Nat} {B : Array Value} {wr wr' : World} (m : LcM w q q3 B wr) (hb : Below wr.heap.size wr wr') : LcM w q q3 B wr' :=
  ⟨m.below.trans (hb.mono m.below.size), (hb.block _ (bkT_lt m.h)).trans m.h, (hb.block _ (bkT_lt m.z)).trans m.z, m.hq, m.hq3⟩
theorem LcM.side {w : World} {q q3 g : Nat} {B : Array Value} {wr wr' : World} (m : LcM w q q3 B wr) (ho : Only g wr wr') (hg : q3 < g) : LcM w q q3 B wr' := by
  have h1 := m.hq; have h2 := m.hq3
  exact ⟨m.below.trans (ho.below (by omega) m.below.size), (ho.block _ (bkT_lt m.h) (by omega)).trans m.h, (ho.block _ (bkT_lt m.z) (by omega)).trans m.z, h1, h2⟩
end Go.Proofs.YteokgklfljhcaaaGreatDoor
namespace Go.Proofs.YteokgklfljhcaaaGreatDoor
set_option linter.unusedVariables false
set_option linter.unusedSimpArgs false
open Go.RowKit
set_option maxRecDepth 100000
/-- the first groups -/
def gtake (n k : Nat) : List Int := (List.range k).map fun i => ((gby n i : Nat) : Int)
theorem gtake_succ (n k : Nat) : gtake n (k + 1) = gtake n k ++ [((gby n k : Nat) : Int)] := by simp [gtake, List.range_succ]
/-- a call of the reference that answers bs with ys behind it, in an array of its own -/
def RefPost (bs ys : List Int) (w : World) (e : Ending) (w' : World) : Prop :=
  ∃ v', e = .returned v' ∧ w'.ownsRow w.heap.size 5 1 v' (bs ++ ys).length (byteVals (bs ++ ys)) ∧ Below w.heap.size w w'
theorem one_alloc (w : World) (x : Int) : BytesIn (w.alloc (.cells #[.int .u8 x] 5)) (.slice (some ⟨w.heap.size, 0, none⟩) 1 1) [x] := one_in w x
set_option maxHeartbeats 1000000 in
theorem dUint_any (b : Value) (bs : List Int) (n : Nat) (w : World) (hb : BytesIn w b bs) (hn : n < 18446744073709551616) (hl : bs.length + 10 ≤ 140737488355328) :
    Calls Tryz.prog 57 #[b, .int .u64 (n : Int)] w (RefPost bs (varint n) w) := by
  have HY := Lib.hid hb
  have HL := Lib.hid hl
  have HN := Lib.hid hn
  have HG := Lib.hid (glen_le hn)
  obtain ⟨B, hB⟩ : ∃ B, B = w.heap.size := ⟨_, rfl⟩
  unfold RefPost
  rw [← hB]
  have HO0 := Lib.hid (World.ownsRow_nil w B 5 1)
  replace hB := Lib.hid hB
  clear hb hl hn
  go_enter Tryz.func57, Tryz.ntmps57
  go_wp2_with (at_builtin; refine wpList_append_bytes rfl (.tmp 6) (.tmp 7) rfl rfl B _ 0 [] rfl HO0.out b bs rfl HY.out (by have := HL.out; omega) (by rw [hB.out]; exact Nat.le_refl _) ?_; intro v' w1 ho hg _; rw [Nat.zero_add, List.nil_append] at ho; have HO := Lib.hid ho; have HA := Lib.hid (((Below.refl B w).grown hg (by rw [hB.out]; exact Nat.le_refl _) (fun k hk => by cases hk))); clear ho hg)
  go_loopw [1, 5] (fun x v wr => ∃ k : Nat, k < glen n ∧ x = .int .u64 ((n / 128 ^ k : Nat) : Int) ∧ Hid (Below B w wr ∧ wr.ownsRow B 5 1 v (bs.length + k) (byteVals (bs ++ gtake n k)))) (fun x _ _ => (intOf x).toNat)
  case atStart => exact ⟨0, glen_pos n, by simp, HA.out, by simpa [gtake] using HO.out⟩
  case round =>
    clear HA HO HO0
    obtain ⟨k, hk, rfl, H⟩ := hrel
    have HO := Lib.hid H.out.2
    have HA := Lib.hid H.out.1
    clear H
    have hk10 := HG.out
    obtain ⟨m, hm⟩ : ∃ m, m = n / 128 ^ k := ⟨_, rfl⟩
    have hmn : m < 18446744073709551616 := by have := HN.out; have := Nat.div_le_self n (128 ^ k); omega
    have hiff := glen_iff hk
    rw [← hm] at hiff ⊢
    by_cases h : 128 ≤ m
    · have hk1 := hiff.1 h
      have hg1 : m % 128 + 128 = gby n k := by unfold gby; rw [if_pos hk1, ← hm]
      have hgi : (127 : Int) < (m : Int) := by omega
      have hmod : (m : Int).tmod 128 = ((m % 128 : Nat) : Int) := by rw [Int.tmod_eq_emod_of_nonneg (by omega)]; omega
      have hdiv : (m : Int).tdiv 128 = ((m / 128 : Nat) : Int) := by rw [Int.tdiv_eq_ediv_of_nonneg (by omega)]; omega
      have HM := Lib.hid hm
      have HG1 := Lib.hid hg1
      have HK1 := Lib.hid hk1
      clear hm hg1 hiff hk1
      go_wp2_with (at_builtin; refine wpList_append_bytes rfl (.tmp 11) (.tmp 16) rfl rfl B _ (bs.length + k) _ rfl (HO.out.alloc _) _ [(m : Int) % 128 + 128] rfl (one_alloc wr _) (by have := HL.out; simp only [List.length_cons, List.length_nil]; have := HK1.out; omega) (by rw [hB.out, size_alloc]; have := HA.out.size; omega) ?_; intro v' w1 ho hg _; have HO1 := Lib.hid ho; have HA1 := Lib.hid (((HA.out.alloc (by rw [hB.out]; exact HA.out.size) _).grown hg (by rw [hB.out, size_alloc]; have := HA.out.size; omega) (fun k hk => (HO.out.lt k hk).1))); clear ho hg)
      go_roundw
      case rel =>
        refine ⟨k + 1, HK1.out, ?_, HA1.out, ?_⟩
        · rw [div_pow_step, ← HM.out]; rfl
        · have h1 := HO1.out
          rw [← byteVals_append, List.append_assoc, show (m : Int) % 128 + 128 = ((gby n k : Nat) : Int) by rw [← HG1.out]; omega, ← gtake_succ] at h1
          exact h1
      case measure => simp [intOf]; omega
    · have hk1 : k + 1 = glen n := by omega
      have hg1 : m = gby n k := by rw [(gby_last hk1).1]; exact hm
      have hgi : ¬ (127 : Int) < (m : Int) := by omega
      have HG1 := Lib.hid hg1
      have HK1 := Lib.hid hk1
      clear hm hg1 hiff hk1
      go_wp2_with (at_builtin; refine wpList_append_bytes rfl (.tmp 20) (.tmp 23) rfl rfl B _ (bs.length + k) _ rfl (HO.out.alloc _) _ [(m : Int)] rfl (one_alloc wr _) (by have := HL.out; simp only [List.length_cons, List.length_nil]; have := HK1.out; omega) (by rw [hB.out, size_alloc]; have := HA.out.size; omega) ?_; intro v' w1 ho hg _; have HO1 := Lib.hid ho; have HA1 := Lib.hid (((HA.out.alloc (by rw [hB.out]; exact HA.out.size) _).grown hg (by rw [hB.out, size_alloc]; have := HA.out.size; omega) (fun k hk => (HO.out.lt k hk).1))); clear ho hg)
      go_ret
      refine ⟨_, rfl, ?_, HA1.out⟩
      have h1 := HO1.out
      rw [← byteVals_append, List.append_assoc, HG1.out, ← gtake_succ, HK1.out] at h1
      rw [varint_length, ← HK1.out]
      exact h1
theorem wp_append_bytes {w : World} {o : Oper} {a : Act} {K : Act → World → Prop} {Q : Exit → Act → World → Prop} (s x : Operand)
    (ho : o.op = .call { callee := .builtin .append, args := #[s, x], argTypes := #[39, 39] }) (hty : o.type = 39)
    (base : Nat) (v : Value) (n : Nat) (vs : List Value) (hs : a.eval s = v) (hown : w.ownsRow base 5 1 v n vs) (y : Value) (ys : List Int) (hx : a.eval x = y) (hy : BytesIn w y ys) (hl : n + ys.length ≤ 140737488355328) (hb : base ≤ w.heap.size)
    (h : ∀ v' w', w'.ownsRow base 5 1 v' (n + ys.length) (vs ++ byteVals ys) → w.grownBy w' v.ownBlock → OwnOf v v' w → K (a.put o.dst v') w') : o.wp Tryz.prog a w K Q := by
  obtain ⟨v', w', hr, h1, h2, h3⟩ := run_append_bytes w base v n vs hown y ys hy hl hb
  unfold Oper.wp execOp
  simp only [ho, hty, resolve, invoke, builtin, Sem.run_bind, Sem.run_pure, Result.andThen_ok, List.map_toArray, List.map_cons, List.map_nil, hs, hx, hr]
  exact h v' w' h1 h2 h3
set_option maxHeartbeats 1000000 in
theorem dHash_any (b : Value) (bs : List Int) (f : Nat → Int) (w : World) (hb : BytesIn w b bs) (hl : bs.length + 32 ≤ 140737488355328) :
    Calls Tryz.prog 63 #[b, .agg (rowOf .u8 32 f)] w (RefPost bs (rowL 32 f) w) := by
  have HY := Lib.hid (hb.below (below_alloc w (.cells (rowOf .u8 32 f) 23)))
  have HR := RowAt.new w .u8 32 23 f
  have HA := Lib.hid (below_alloc w (.cells (rowOf .u8 32 f) 23))
  have HL := Lib.hid hl
  have HO0 := Lib.hid (World.ownsRow_nil (w.alloc (.cells (rowOf .u8 32 f) 23)) w.heap.size 5 1)
  replace HR := Lib.hid HR
  clear hb hl
  unfold RefPost
  go_enter Tryz.func63, Tryz.ntmps63
  go_upto_region 2 with (fail)
  generalize w.alloc (.cells (rowOf .u8 32 f) 23) = w1 at *
  obtain ⟨w2, hw2⟩ : ∃ w2, w2 = w1.drew := ⟨_, rfl⟩
  replace HY := Lib.hid (show BytesIn w2 b bs by rw [hw2]; exact HY.out)
  replace HR := Lib.hid (show RowAt w2 w.heap.size .u8 32 23 f by rw [hw2]; exact HR.out)
  replace HA := Lib.hid (show Below w.heap.size w w2 by rw [hw2]; exact HA.out.drew)
  replace HO0 := Lib.hid (show w2.ownsRow w.heap.size 5 1 (.slice none 0 0) 0 [] by rw [hw2]; exact HO0.out)
  refine wp_region_any (by kernel_rfl) ?_
  change wpAny _ _ _ _ _ _ _ w1.drew
  rw [← hw2]
  clear hw2
  refine wpAny_take (i := 0) (v := .slice none 0 0) rfl (by kernel_rfl) (by kernel_rfl) (by kernel_rfl) (fun _ _ _ h => h) (Or.inl ⟨by rfl, by intro w; go_simp⟩) ?_
  try simp only [List.getElem_toArray, List.getElem_cons_zero, Act.put, List.setIfInBounds_toArray, List.set_cons_zero, List.set_cons_succ]
  refine wpAny_take (i := 1) (v := b) rfl (by kernel_rfl) (by kernel_rfl) (by kernel_rfl) (fun _ _ _ h => h) (Or.inl ⟨by rfl, by intro w; go_simp⟩) ?_
  try simp only [List.getElem_toArray, List.getElem_cons_succ, List.getElem_cons_zero, Act.put, List.setIfInBounds_toArray, List.set_cons_zero, List.set_cons_succ]
  refine wpAny_take (i := 3) (v := .slice (some ⟨w.heap.size, 0, none⟩) 32 32) rfl (by kernel_rfl) (by kernel_rfl) (by kernel_rfl) (fun _ _ _ h => h) (Or.inl ⟨by rfl, by intro w; go_simp⟩) ?_
  try simp only [List.getElem_toArray, List.getElem_cons_succ, List.getElem_cons_zero, Act.put, List.setIfInBounds_toArray, List.set_cons_zero, List.set_cons_succ]
  refine wpAny_ready (rs := [2]) (by kernel_rfl) (by simp) ?_; refine AllReady.cons rfl (fun K hK => ?_) AllReady.nil; rw [if_pos (by rfl)]
  try simp only [List.getElem_toArray, List.getElem_cons_succ, List.getElem_cons_zero]
  refine wp_append_bytes (.tmp 6) (.tmp 7) rfl rfl w.heap.size _ 0 [] rfl HO0.out b bs rfl HY.out (by have := HL.out; omega) HA.out.size ?_
  intro v3 w3 ho hg hof
  rw [Nat.zero_add, List.nil_append] at ho
  have HA3 := Lib.hid (HA.out.grown hg HA.out.size (fun k hk => by cases hk))
  have HR3 := Lib.hid (show RowAt w3 w.heap.size .u8 32 23 f from (hg.block _ HR.out.lt (by intro h; cases h)).trans HR.out)
  replace ho := Lib.hid ho
  clear hg hof
  refine hK _ _ ?_
  clear hK K
  try simp only [Act.put, List.setIfInBounds_toArray, List.set_cons_zero, List.set_cons_succ]
  refine wpAny_ready (rs := [4]) (by kernel_rfl) (by simp) ?_; refine AllReady.cons rfl (fun K hK => ?_) AllReady.nil; rw [if_pos (by rfl)]
  try simp only [List.getElem_toArray, List.getElem_cons_succ, List.getElem_cons_zero]
  refine wp_append_bytes (.tmp 8) (.tmp 9) rfl rfl w.heap.size _ _ _ rfl ho.out _ (rowL 32 f) rfl (row_in HR3.out (Nat.le_refl _) (Nat.le_refl _) (by simp [maxLen])) (by have := HL.out; simp only [rowL, List.length_map, List.length_range]; omega) HA3.out.size ?_
  intro v4 w4 ho4 hg hof
  have HA4 := Lib.hid (HA3.out.grown hg HA3.out.size (fun k hk => (ho.out.lt k hk).1))
  replace ho4 := Lib.hid ho4
  clear hg hof
  refine hK _ _ ?_
  clear hK K
  try simp only [Act.put, List.setIfInBounds_toArray, List.set_cons_zero, List.set_cons_succ]
  refine wpAny_ready (rs := [5]) (by kernel_rfl) (by simp) ?_; refine AllReady.cons rfl (fun K hK => ?_) AllReady.nil; rw [if_pos (by rfl)]
  try simp only [List.getElem_toArray, List.getElem_cons_succ, List.getElem_cons_zero]
  go_simp
  refine hK _ _ ?_
  clear hK K
  try simp only [List.getElem_toArray, List.getElem_cons_succ, List.getElem_cons_zero, Act.put, List.setIfInBounds_toArray, List.set_cons_zero, List.set_cons_succ]
  refine wpAny_done (by kernel_rfl) ?_ _
  go_wp2_with (fail)
  go_ret
  refine ⟨_, rfl, ?_, HA4.out⟩
  have h1 := ho4.out
  rw [← byteVals_append] at h1
  simpa using h1
#print axioms dHash_any
end Go.Proofs.YteokgklfljhcaaaGreatDoor
namespace Go.Proofs.YteokgklfljhcaaaGreatDoor
set_option linter.unusedVariables false
set_option linter.unusedSimpArgs false
open Go.RowKit
set_option maxRecDepth 100000
theorem dInt_any (b : Value) (bs : List Int) (i : Int) (w : World) (hb : BytesIn w b bs) (h0 : -9223372036854775808 ≤ i) (h1 : i ≤ 9223372036854775807) (hl : bs.length + 10 ≤ 140737488355328) :
    Calls Tryz.prog 61 #[b, .int .i64 i] w (RefPost bs (varint (zig i)) w) := by
  have H := Lib.hid (dUint_any b bs (zig i) w hb (zig_lt h0 h1) hl)
  clear hb hl
  unfold RefPost at *
  by_cases hn : i < 0
  · have e : ((zig i : Nat) : Int) = 2 * (-(i + 1)) + 1 := by unfold zig; rw [if_pos hn]; omega
    rw [e] at H
    go_enter Tryz.func61, Tryz.ntmps61
    go_wp2_with (go_at_call 57; (with_reducible refine H.out.mono ?_); rintro e w1 ⟨v', rfl, ho, hb⟩; replace ho := Lib.hid ho; replace hb := Lib.hid hb)
    go_ret
    exact ⟨_, rfl, ho.out, hb.out⟩
  · have e : ((zig i : Nat) : Int) = 2 * i := by unfold zig; rw [if_neg hn]; omega
    rw [e] at H
    go_enter Tryz.func61, Tryz.ntmps61
    go_wp2_with (go_at_call 57; (with_reducible refine H.out.mono ?_); rintro e w1 ⟨v', rfl, ho, hb⟩; replace ho := Lib.hid ho; replace hb := Lib.hid hb)
    go_ret
    exact ⟨_, rfl, ho.out, hb.out⟩
end Go.Proofs.YteokgklfljhcaaaGreatDoor
namespace Go.Proofs.YteokgklfljhcaaaGreatDoor
set_option linter.unusedVariables false
set_option linter.unusedSimpArgs false
open Go.RowKit
set_option maxRecDepth 100000
set_option linter.unusedSimpArgs false
set_option linter.unusedVariables false
theorem refL_next {bs ys : List Int} {w w' : World} {e : Ending} (h : RefPost bs ys w e w') (hl : (bs ++ ys).length ≤ maxLen) : ∃ v', e = .returned v' ∧ BytesIn w' v' (bs ++ ys) ∧ Below w.heap.size w w' := by
  obtain ⟨v', h1, h2, h3⟩ := h
  exact ⟨v', h1, owns_in h2 hl, h3⟩
/-- a vote as an argument in memory -/
def RvS (q : Nat) (t : Vo) (w : World) : Prop := w.heap[q]? = some (.cells (voC t) 99 (0, 0)) ∧ BytesIn w t.sv t.sign
theorem RvS.s {q : Nat} {t : Vo} {w : World} (h : RvS q t w) : BytesIn w t.sv t.sign := And.right h
theorem RvS.below {q : Nat} {t : Vo} {w w' : World} (h : RvS q t w) (hb : Below w.heap.size w w') : RvS q t w' := ⟨(hb.block _ (bkT_lt h.1)).trans h.1, h.2.below hb⟩
/-- two votes' places -/
structure VxM (ab ao ab2 ao2 k : Nat) (x y : Vo) (w : World) : Prop where
  l1 : ab < w.heap.size
  r1 : w.rangeAt ab (ao + k * 37) (voC x).toList
  l2 : ab2 < w.heap.size
  r2 : w.rangeAt ab2 (ao2 + k * 37) (voC y).toList
  s1 : BytesIn w x.sv x.sign
  s2 : BytesIn w y.sv y.sign
end Go.Proofs.YteokgklfljhcaaaGreatDoor

/- Part 16 of the proof. -/
import Derived.Laws.MakeOwn
import Derived.Test.YteokgklfljhcaaaGreatDoorBd1
import Derived.Test.YteokgklfljhcaaaGreatDoorBd7
import Derived.Test.YteokgklfljhcaaaGreatDoorBd12
import Derived.Test.YteokgklfljhcaaaGreatDoorBd15
namespace Go.Proofs.YteokgklfljhcaaaGreatDoor
set_option linter.unusedVariables false
set_option linter.unusedSimpArgs false
open Go.RowKit
set_option maxRecDepth 100000
structure LeafM (w w' : World) (g : Nat) (h : HS) : Prop where
  re : RowAt w' w.heap.size .u8 32 23 (fun _ => 0)
  hash : HashAt w' g h.s h.b h.n
  gg : w.heap.size < g
  bounds : 0 ≤ h.n ∧ h.n < 18446744073709551616
  below : Below w.heap.size w w'
  env : Env w'
theorem LeafM.wrote {w w' w2 : World} {g : Nat} {h : HS} (m : LeafM w w' g h) {xs : List Int} (hh : HashAt w2 g (putF h xs).s (putF h xs).b (putF h xs).n) (ho : Only g w' w2) (hc : 2 < w.heap.size) : LeafM w w2 g (putF h xs) :=
  ⟨(ho.block _ m.re.lt (by have := m.gg; omega)).trans m.re, hh, m.gg, putF_bounds h m.bounds.1 m.bounds.2 xs, m.below.trans (ho.below (by have := m.gg; omega) m.below.size), ho.env m.env (by have := m.gg; omega)⟩
theorem LeafM.calls {w w' w2 : World} {g : Nat} {h : HS} (m : LeafM w w' g h) (hb : Below w'.heap.size w' w2) : LeafM w w2 g h :=
  ⟨m.re.below hb m.re.lt, m.hash.below hb m.hash.lt, m.gg, m.bounds, m.below.trans (hb.mono m.below.size), m.env.below hb m.env.lt⟩
theorem leaf_start (w : World) (he : Env w) : LeafM w ((w.alloc (.cells (rowOf .u8 32 (fun _ => 0)) 23)).alloc (.cells (hashCells BT (fun _ => 0) 0) 210)) (w.heap.size + 1) h0 := by
  have hb : Below w.heap.size w ((w.alloc (.cells (rowOf .u8 32 (fun _ => 0)) 23)).alloc (.cells (hashCells BT (fun _ => 0) 0) 210)) := (below_alloc w _).trans ((below_alloc _ _).mono (by simp))
  refine ⟨(RowAt.new w _ _ _ _).alloc _, ?_, by omega, by decide, hb, he.below hb he.lt⟩
  have := heap_alloc_new (w.alloc (.cells (rowOf .u8 32 (fun _ => 0)) 23)) (.cells (hashCells BT (fun _ => 0) 0) 210)
  rw [shSize_alloc] at this; exact this
theorem oneAt (w : World) (g : Nat) (hg : g < w.heap.size) (x : Int) : BytesAt (w.alloc (.cells #[.int .u8 x] 5)) g (.slice (some ⟨w.heap.size, 0, none⟩) 1 1) [x] := by
  refine ⟨_, _, rfl, by simp, by simp [maxLen], .inr ⟨_, _, rfl, by omega, fun i y hi => ?_⟩⟩
  rw [Nat.zero_add, cell_of_row _ _ _ _ _ _ (heap_alloc_new w _)]
  match i, hi with
  | 0, hi => cases hi; rfl
theorem BytesAt.below' {w w' : World} {g : Nat} {v : Value} {xs : List Int} (h : BytesAt w g v xs) (hb : Below w.heap.size w w') : BytesAt w' g v xs := by
  obtain ⟨a, cap, rfl, hc, hm, hx⟩ := h
  refine ⟨a, cap, rfl, hc, hm, ?_⟩
  rcases hx with hx | ⟨ab, ao, rfl, hne, hx⟩
  · exact .inl hx
  · exact .inr ⟨ab, ao, rfl, hne, fun i y hi => (hb.cell (p := ⟨ab, ao + i, none⟩) (World.block_lt_of_cell? w _ (hx i y hi))).trans (hx i y hi)⟩
set_option maxHeartbeats 400000 in
theorem leaf_any (v : Value) (xs : List Int) (w : World) (hx : BytesIn w v xs) (he : Env w) :
    Calls Tryz.prog 49 #[v] w fun e w' => e = .returned (.agg (rowOf .u8 32 (sumF (0 :: xs)))) ∧ Below w.heap.size w w' := by
  have M := Lib.hid (leaf_start w he)
  have HE := Lib.hid (he.below (below_alloc w (.cells (rowOf .u8 32 (fun _ => 0)) 23)) he.lt)
  have HC := Lib.hid he.lt
  have HX := Lib.hid (hx.at (g := w.heap.size + 1) M.out.below (Nat.le_refl _) (by omega))
  clear he hx
  go_enter Tryz.func49, Tryz.ntmps49
  go_upto_region 1 with (fail)
  rw [zeros32]
  go_upto_region 2 with (go_at_call 98; (with_reducible refine (shNew_any _ HE.out).mono ?_); rintro e w' ⟨rfl, rfl⟩)
  generalize (w.alloc (.cells (rowOf .u8 32 (fun _ => 0)) 23)).alloc (.cells (hashCells BT (fun _ => 0) 0) 210) = w1 at *
  obtain ⟨g, hg⟩ : ∃ g, g = w.heap.size + 1 := ⟨_, rfl⟩
  rw [← hg] at M HX ⊢
  replace hg := Lib.hid hg
  clear HE
  have M1 := Lib.hid (M.out.calls (below_alloc w1 (.cells #[.int .u8 0] 5)))
  have HO1 := Lib.hid (oneAt w1 g M.out.hash.lt 0)
  have HX1 := Lib.hid (HX.out.below' (below_alloc w1 (.cells #[.int .u8 0] 5)))
  have HG := Lib.hid (show 2 < g from by have := HC.out; have := hg.out; omega)
  go_upto_region 3 with (go_at_call 99; (with_reducible refine (shWrite_any g _ _ _ [0] _ _ M1.out.hash M1.out.bounds.1 M1.out.bounds.2 HO1.out M1.out.env HG.out).mono ?_); rintro e w2 ⟨rfl, HH, HO⟩; replace HH := Lib.hid HH; replace HO := Lib.hid HO)
  have M2 := Lib.hid (M1.out.wrote HH.out HO.out HC.out)
  have HX2 := Lib.hid (HX1.out.only HO.out)
  clear M M1 HX HX1 HH HO HO1
  go_upto_region 4 with (go_at_call 99; (with_reducible refine (shWrite_any g _ _ _ xs v _ M2.out.hash M2.out.bounds.1 M2.out.bounds.2 HX2.out M2.out.env HG.out).mono ?_); rintro e w3 ⟨rfl, HH, HO⟩; replace HH := Lib.hid HH; replace HO := Lib.hid HO)
  have M3 := Lib.hid (M2.out.wrote HH.out HO.out HC.out)
  clear M2 HX2 HH HO
  go_wp2_with (first
    | (go_at_call 100; (with_reducible refine (sumM_any g _ _ _ _ M3.out.hash M3.out.bounds.1 M3.out.bounds.2 M3.out.env.consts).mono ?_); rintro e w5 ⟨rfl, HB5⟩; replace M3 := Lib.hid (M3.out.calls HB5); clear HB5)
    | (refine wpList_store_row rfl 23 (.tmp 2) (.tmp 12) rfl w.heap.size _ rfl rfl 23 _ M3.out.re (by rw [rowOf_size]; kernel_rfl) (by rw [rowOf_size, rowOf_size]) (rowOf_one _ _ _) ?_))
  refine bodyPost_ret (results_cell_row rfl _ _ w.heap.size 23 _ (0, 0) _ rfl (setRow_heap _ _ _ _ _ _ M3.out.re) Tryz.underlying23 rfl (by rw [rowOf_size]; kernel_rfl)) rfl ?_
  exact ⟨by rfl, below_setRow M3.out.below (by omega) _⟩
end Go.Proofs.YteokgklfljhcaaaGreatDoor
namespace Go.Proofs.YteokgklfljhcaaaGreatDoor
set_option linter.unusedVariables false
set_option linter.unusedSimpArgs false
open Go.RowKit
set_option maxRecDepth 100000
set_option linter.unusedSimpArgs false
set_option linter.unusedVariables false
/-- block g has room for n hashes; the first m are L -/
def Lv11 (w : World) (g n m : Nat) (L : Nat → Nat → Int) : Prop := ∃ cs : Array Value, w.heap[g]? = some (.cells cs 23 (0, 0)) ∧ cs.size = n * 32 ∧ ∀ i, i < m → ∀ j, j < 32 → cs[i * 32 + j]? = some (.int .u8 (L i j))
theorem Lv11.put {w : World} {g n m : Nat} {L : Nat → Nat → Int} (h : Lv11 w g n m L) (hm : m < n) : Lv11 (w.setCells g (m * 32) (rowOf .u8 32 (L m)).toList) g n (m + 1) L := by
  obtain ⟨cs, h1, h2, h3⟩ := h
  have hl : (rowOf .u8 32 (L m)).toList.length = 32 := (rowOf_list _ _ _).2
  obtain ⟨cs', a, b, c⟩ := setCells11 g 23 (rowOf .u8 32 (L m)).toList (m * 32) w cs h1 (by rw [hl, h2]; omega)
  refine ⟨cs', a, b.trans h2, fun k hk j hj => ?_⟩
  rw [c, hl]
  by_cases e : k = m
  · subst e
    rw [if_pos (by omega), show k * 32 + j - k * 32 = j by omega, Array.getElem?_toList, rowOf_get _ _ _ _ hj]
  · rw [if_neg (by omega)]
    exact h3 k (by omega) j hj
theorem Lv11.below {w w' : World} {B g n m : Nat} {L : Nat → Nat → Int} (h : Lv11 w g n m L) (hb : Below B w w') (hg : g < B) : Lv11 w' g n m L := by
  obtain ⟨cs, h1, h2, h3⟩ := h
  exact ⟨cs, (hb.block g hg).trans h1, h2, h3⟩
theorem Lv11.lt {w : World} {g n m : Nat} {L : Nat → Nat → Int} (h : Lv11 w g n m L) : g < w.heap.size := by
  obtain ⟨cs, h1, _⟩ := h
  exact (Array.getElem?_eq_some_iff.1 h1).1
theorem Lv11.there {w : World} {g n m : Nat} {L : Nat → Nat → Int} (h : Lv11 w g n m L) (i : Nat) (hi : i < n) {s : Nat} (hs : s = 32) : w.there g (i * 32) s := fun j hj => by
  obtain ⟨cs, h1, h2, h3⟩ := h
  subst hs
  have : i * 32 + j < cs.size := by rw [h2]; omega
  exact ⟨by rw [cell_of_row _ _ _ _ _ _ h1]; simp [this], frozen_of_row _ _ _ _ _ h1⟩
theorem Lv11.hashes {w : World} {g n : Nat} {L : Nat → Nat → Int} {hs : List (Nat → Int)} (h : Lv11 w g n n L) (hn : n ≤ maxLen) (hl : hs.length = n) (hL : ∀ i, i < n → hs.getD i zeroH = L i) : HashesIn w (.slice (some ⟨g, 0, none⟩) n n) hs := by
  have hlt := h.lt
  obtain ⟨cs, h1, h2, h3⟩ := h
  refine ⟨_, n, by rw [hl], by omega, by omega, .inr ⟨g, 0, rfl, hlt, fun i hi j v hv => ?_⟩⟩
  rw [hl] at hi
  have hj : j < 32 := by have := (List.getElem?_eq_some_iff.1 hv).1; rw [(rowOf_list _ _ _).2] at this; exact this
  rw [hL i hi, Array.getElem?_toList, rowOf_get _ _ _ _ hj] at hv
  rw [cell_of_row _ _ _ _ _ _ h1, Nat.zero_add, h3 i hi j hj]; exact hv
theorem infoH11 : (Tryz.prog.info? 23).map (fun i => (i.zero, i.size, i.bytes)) = some (some (.agg (rowOf .u8 32 (fun _ => 0))), 32, 32) := by kernel_rfl
theorem makeH11 (n : Nat) (hn : n ≤ 1048576) : ∃ C : Array Value, C.size = n * 32 ∧ ∀ w : World, (Instr.makeSlice 82 (.int .i64 (n : Int)) (.int .i64 (n : Int))).run Tryz.prog w = .ok (.slice (some ⟨w.heap.size, 0, none⟩) n n) (w.alloc (.cells C 23)) := by
  obtain ⟨i0, hi, hz0, hz1, hz2⟩ := info_parts infoH11
  refine ⟨madeCells (Value.agg (rowOf .u8 32 (fun _ => 0))).cells (n * 32), size_madeCells _ _, fun w => ?_⟩
  have := run_make w 82 23 i0 _ Tryz.underlying82 hi hz0 .i64 .i64 (n : Int) (n : Int) (by omega) (by omega) (by rw [hz2]; omega) (by omega)
  rw [Int.toNat_natCast, hz1] at this
  exact this
structure HsM (w wr : World) (g n m : Nat) (L : Nat → Nat → Int) : Prop where
  below : Below w.heap.size w wr
  res : wr.heap[w.heap.size]? = some (.cells (rowOf .u8 32 (fun _ => 0)) 23 (0, 0))
  lv : Lv11 wr g n m L
  hg : w.heap.size < g
theorem HsM.call {w wr w2 : World} {g n m : Nat} {L : Nat → Nat → Int} (h : HsM w wr g n m L) (hb : Below wr.heap.size wr w2) : HsM w w2 g n m L :=
  ⟨h.below.trans (hb.mono h.below.size), (hb.block _ (bkT_lt h.res)).trans h.res, h.lv.below hb h.lv.lt, h.hg⟩
theorem HsM.put {w wr : World} {g n m : Nat} {L : Nat → Nat → Int} (h : HsM w wr g n m L) (hm : m < n) {f : Nat → Int} (hf : L m = f) : HsM w (wr.setCells g (m * 32) (rowOf .u8 32 f).toList) g n (m + 1) L := by
  subst hf
  have ho := only_cells11 g (rowOf .u8 32 (L m)).toList (m * 32) wr
  have hg := h.hg
  exact ⟨h.below.trans (ho.below (by omega) h.below.size), (ho.block _ (bkT_lt h.res) (by omega)).trans h.res, h.lv.put hm, h.hg⟩
theorem HsM.start {w : World} {n : Nat} {C : Array Value} (L : Nat → Nat → Int) (hC : C.size = n * 32) (w1 : World) (h1 : w.alloc (.cells (rowOf .u8 32 (fun _ => 0)) 23) = w1) : HsM w (w1.alloc (.cells C 23)) w1.heap.size n 0 L := by
  have b1 := below_alloc w (.cells (rowOf .u8 32 (fun _ => 0)) 23)
  have h2 := heap_alloc_new w (.cells (rowOf .u8 32 (fun _ => 0)) 23)
  have hs : w1.heap.size = w.heap.size + 1 := by rw [← h1]; simp
  rw [h1] at b1 h2
  have b2 := below_alloc w1 (.cells C 23)
  exact ⟨b1.trans (b2.mono (by omega)), (b2.block _ (by omega)).trans h2, ⟨C, heap_alloc_new _ _, hC, fun i hi => by omega⟩, by omega⟩
structure HrM (w wr : World) (v : Value) (ps : List (Nat → Int)) : Prop where
  below : Below w.heap.size w wr
  res : wr.heap[w.heap.size]? = some (.cells (rowOf .u8 32 (fun _ => 0)) 23 (0, 0))
  own : wr.ownsRow (w.heap.size + 1) 23 32 v ps.length (flatC ps)
  size : w.heap.size + 1 ≤ wr.heap.size
theorem own_keep11 {w w' : World} {B n : Nat} {v : Value} {vs : List Value} (h : w.ownsRow B 23 32 v n vs) (hb : Below w.heap.size w w') : w'.ownsRow B 23 32 v n vs := own_stay11 h fun k hk => hb.block k (h.lt k hk).2
theorem HrM.call {w wr w2 : World} {v : Value} {ps : List (Nat → Int)} (m : HrM w wr v ps) (h : Below wr.heap.size wr w2) : HrM w w2 v ps :=
  ⟨m.below.trans (h.mono m.below.size), (h.block _ (bkT_lt m.res)).trans m.res, own_keep11 m.own h, Nat.le_trans m.size h.size⟩
theorem flat11_app (ps : List (Nat → Int)) (f : Nat → Int) : flatC ps ++ flatC [f] = flatC (ps ++ [f]) := by
  induction ps with
  | nil => rfl
  | cons p r ih => show ((rowOf .u8 32 p).toList ++ flatC r) ++ flatC [f] = (rowOf .u8 32 p).toList ++ flatC (r ++ [f]); rw [List.append_assoc, ih]
theorem HrM.more {w wr w2 : World} {v v' : Value} {ps : List (Nat → Int)} {f : Nat → Int} (m : HrM w wr v ps) (hg : wr.grownBy w2 v.ownBlock) (ho : w2.ownsRow (w.heap.size + 1) 23 32 v' (ps.length + [f].length) (flatC ps ++ flatC [f])) : HrM w w2 v' (ps ++ [f]) := by
  have hsz := m.size
  have hb : ∀ j, j < w.heap.size + 1 → w2.heap[j]? = wr.heap[j]? := fun j hj => hg.block j (by omega) (fun e => by have := (m.own.lt j e.symm).1; omega)
  refine ⟨⟨hg.os.trans m.below.os, hg.tape.trans m.below.tape, hg.output.trans m.below.output, Nat.le_trans m.below.size hg.size, fun j hj => (hb j (by omega)).trans (m.below.block j hj)⟩, (hb _ (by omega)).trans m.res, ?_, Nat.le_trans hsz hg.size⟩
  rw [List.length_append]
  rw [flat11_app] at ho
  exact ho
theorem one_hash11 {w : World} {g : Nat} {f : Nat → Int} (h : w.heap[g]? = some (.cells (rowOf .u8 32 f) 23 (0, 0))) : HashesIn w (.slice (some ⟨g, 0, none⟩) 1 1) [f] := by
  refine ⟨_, _, rfl, Nat.le_refl _, by unfold maxLen; decide, .inr ⟨g, 0, rfl, bkT_lt h, fun i hi j v hv => ?_⟩⟩
  have hi0 : i = 0 := by simpa using hi
  subst hi0
  have := rowT_range h j v hv
  simpa using this
theorem flat_wide11 {w : World} {B n : Nat} {v : Value} {vs : List Value} (h : w.ownsRow B 23 32 v n vs) : ∃ a c, v = .slice a n c := by
  rcases h.2 with ⟨rfl, h0⟩ | ⟨g, c, _, rfl, _⟩
  · exact ⟨none, 0, by rw [h0]⟩
  · exact ⟨_, c, rfl⟩
theorem map_getD11 {α : Type} {l : List α} {F : α → Nat → Int} {i : Nat} {x : α} (h : l[i]? = some x) : (l.map F).getD i zeroH = F x := by simp [List.getD, h]
/-- a transaction's leaf -/
def txF (t : Tb) : Nat → Int := sumF (0 :: t.bs)
set_option maxHeartbeats 8000000 in
theorem ptxs_any (ls : List Tb) (lv : Value) (w : World) (he : Env w) (ht : TbIn w lv ls) (hts : ∀ t ∈ ls, BytesIn w t.bv t.bs) (hz : ∀ t ∈ ls, t.bs.length + 81 ≤ 140737488355328) (hn : ls.length ≤ 1048576) :
    Calls Tryz.prog 9 #[lv] w fun e w' => e = .returned (.agg (rowOf .u8 32 (rootF (ls.map txF)))) ∧ Below w.heap.size w w' := by
  obtain ⟨a, cap, rfl, -, hmax⟩ := ht.len
  have HE := Lib.hid he
  have HG := Lib.hid he.lt
  have HT := Lib.hid ht
  have HTS := Lib.hid hts
  have HZ := Lib.hid hz
  obtain ⟨RT, hRT⟩ : ∃ R, R = rootF (ls.map txF) := ⟨_, rfl⟩
  have HRT := Lib.hid (show ∀ g n w, n = ls.length → HashesIn w (.slice (some ⟨g, 0, none⟩) n n) (ls.map txF) → Env w → Calls Tryz.prog 50 #[.slice (some ⟨g, 0, none⟩) n n] w fun e w' => e = .returned (.agg (rowOf .u8 32 RT)) ∧ Below w.heap.size w w' from fun g n w hn h he => by rw [hRT]; exact root_any n _ (by simp [hn]) _ w h he)
  obtain ⟨L, hL⟩ : ∃ L : Nat → Nat → Int, L = fun i => (ls.map txF).getD i zeroH := ⟨_, rfl⟩
  have HL := Lib.hid hL
  obtain ⟨n, hnn⟩ : ∃ n, n = ls.length := ⟨_, rfl⟩
  have HN := Lib.hid hnn
  have hn1 : n ≤ 1048576 := by omega
  have hnI : (n : Int) ≤ 1048576 := by omega
  rw [← hnn] at HT ⊢
  rw [← hRT]
  obtain ⟨C, hCs, hmk⟩ := makeH11 n hn1
  clear he ht hts hn hmax hz hRT hL hnn
  go_enter Tryz.func9, Tryz.ntmps9
  go_upto_region 1 with (fail)
  rw [zeros32]
  generalize h1 : w.alloc (.cells (rowOf .u8 32 (fun _ => 0)) 23) = w1
  have H1 := Lib.hid h1
  clear h1
  go_upto_region 2 with (fail)
  have M := Lib.hid (HsM.start L hCs w1 H1.out)
  obtain ⟨g, hg⟩ : ∃ g, g = w1.heap.size := ⟨_, rfl⟩
  rw [← hg] at M ⊢
  clear hg hmk hCs H1
  generalize w1.alloc (.cells C 23) = w2 at *
  go_wp2_with (fail)
  go_loopw [11] (fun i wr => ∃ m : Nat, m ≤ n ∧ i = .int .i64 (m : Int) ∧ Hid (HsM w wr g n m L)) (fun i _ => n - (intOf i).toNat)
  case atStart => exact ⟨0, by omega, rfl, M⟩
  case round =>
    clear M
    obtain ⟨m, hm, rfl, M⟩ := hrel
    by_cases hlt : m < n
    · have hltI : (m : Int) < (n : Int) := by omega
      have HLT := Lib.hid hlt
      obtain ⟨x, hx⟩ : ∃ x, ls[m]? = some x := ⟨ls[m]'(by have := HN.out; omega), List.getElem?_eq_getElem _⟩
      have hv := HT.out.below M.out.below
      rw [HN.out] at hv
      obtain ⟨ab, ao, rfl, hab, hra⟩ := hv.at hx
      have HBX := Lib.hid (HTS.out x (List.mem_of_getElem? hx))
      have HZX := Lib.hid (HZ.out x (List.mem_of_getElem? hx))
      have HLM := Lib.hid (show L m = txF x from by rw [HL.out]; exact map_getD11 hx)
      have h1 : wr.cell? ⟨ab, ao + m, none⟩ = some x.bv := by have := hra 0 _ rfl; rw [Nat.mul_one] at this; exact this
      clear hra
      clear hv hab hx
      obtain ⟨f, hf⟩ : ∃ f, f = txF x := ⟨_, rfl⟩
      have HF := Lib.hid hf
      have RP := Lib.hid (show ∀ W, Below w.heap.size w W → Calls Tryz.prog 49 #[x.bv] W fun e w' => e = .returned (.agg (rowOf .u8 32 f)) ∧ Below W.heap.size W w' from fun W hb => by rw [hf]; exact leaf_any x.bv x.bs W (HBX.out.below (hb.mono (Nat.le_refl _))) (HE.out.below hb HG.out))
      clear hf
      go_upto_region 6 with (first
        | (go_at_call 49; (with_reducible refine (RP.out _ M.out.below).mono ?_); rintro e w5 ⟨rfl, hb⟩; replace M := Lib.hid (M.out.call hb); clear hb)
        | (refine wpList_store_mid rfl 23 (.tmp 20) (.tmp 19) rfl g (m * 32) (rowOf .u8 32 f) rfl rfl (M.out.lv.there m HLT.out (rowOf_size _ _ _)) (by rw [rowOf_size]; kernel_rfl) (rowOf_one _ _ _) ?_))
      replace M := Lib.hid (M.out.put HLT.out (HLM.out.trans HF.out.symm))
      generalize World.setCells _ g (m * 32) (rowOf .u8 32 f).toList = w9 at *
      go_wp2_with (fail)
      go_roundw
      case rel => exact ⟨m + 1, by omega, by go_num, M⟩
      case measure => simp [intOf]; omega
    · obtain rfl : m = n := by omega
      have HH := Lib.hid (M.out.lv.hashes (hs := ls.map txF) (by unfold maxLen; omega) (by rw [List.length_map, HN.out]) (fun i _ => by rw [HL.out]))
      go_wp2_with (first
        | (go_at_call 50; (with_reducible refine (HRT.out _ _ _ HN.out HH.out (HE.out.below M.out.below HG.out)).mono ?_); rintro e w5 ⟨rfl, hb⟩; replace M := Lib.hid (M.out.call hb); clear hb)
        | (refine wpList_store_row rfl 23 (.tmp 2) (.tmp 23) rfl w.heap.size (rowOf .u8 32 RT) rfl rfl 23 _ M.out.res (by rw [rowOf_size]; kernel_rfl) (by rw [rowOf_size, rowOf_size]) (rowOf_one _ _ _) ?_))
      refine bodyPost_ret (results_cell_row rfl _ _ w.heap.size 23 (rowOf .u8 32 RT) (0, 0) _ rfl (setRow_heap _ _ _ _ _ _ M.out.res) Tryz.underlying23 rfl (by rw [rowOf_size]; kernel_rfl)) rfl ?_
      exact ⟨rfl, below_setRow M.out.below (Nat.le_refl _) _⟩
set_option maxHeartbeats 8000000 in
theorem rtxs_any (ls : List Tb) (lv : Value) (w : World) (ht : TbIn w lv ls) (hts : ∀ t ∈ ls, BytesIn w t.bv t.bs) (hz : ∀ t ∈ ls, t.bs.length + 81 ≤ 140737488355328) (hn : ls.length ≤ 1048576) :
    Calls Tryz.prog 10 #[lv] w fun e w' => e = .returned (.agg (rowOf .u8 32 (rootF (ls.map txF)))) ∧ Below w.heap.size w w' := by
  obtain ⟨a, cap, rfl, -, hmax⟩ := ht.len
  have HT := Lib.hid ht
  have HTS := Lib.hid hts
  have HZ := Lib.hid hz
  obtain ⟨RT, hRT⟩ : ∃ R, R = rootF (ls.map txF) := ⟨_, rfl⟩
  have HRT := Lib.hid (show ∀ v w, HashesIn w v (ls.map txF) → Calls Tryz.prog 52 #[v] w fun e w' => e = .returned (.agg (rowOf .u8 32 RT)) ∧ Below w.heap.size w w' from fun v w h => by rw [hRT]; exact rroot_any _ _ rfl _ w h)
  obtain ⟨n, hnn⟩ : ∃ n, n = ls.length := ⟨_, rfl⟩
  have HN := Lib.hid hnn
  have hnI : (n : Int) ≤ 1048576 := by omega
  have hn1 : n ≤ 1048576 := by omega
  rw [← hnn] at HT ⊢
  rw [← hRT]
  clear ht hts hn hmax hz hRT hnn
  go_enter Tryz.func10, Tryz.ntmps10
  go_upto_region 1 with (fail)
  rw [zeros32]
  have M := Lib.hid (show HrM w (w.alloc (.cells (rowOf .u8 32 (fun _ => 0)) 23)) (.slice none 0 0) [] from ⟨below_alloc _ _, heap_alloc_new _ _, World.ownsRow_nil _ _ _ _, by simp⟩)
  generalize w.alloc (.cells (rowOf .u8 32 (fun _ => 0)) 23) = w1 at *
  go_wp2_with (fail)
  go_loopw [3, 4] (fun r i wr => ∃ m : Nat, m ≤ n ∧ i = .int .i64 (m : Int) ∧ Hid (HrM w wr r ((ls.take m).map txF))) (fun _ i _ => n - (intOf i).toNat)
  case atStart => exact ⟨0, Nat.zero_le _, rfl, M⟩
  case round =>
    clear M
    obtain ⟨m, hm, rfl, M⟩ := hrel
    obtain ⟨ap, cp, rfl⟩ := flat_wide11 M.out.own
    have HPL := Lib.hid (show ((ls.take m).map txF).length = m from by rw [List.length_map, List.length_take]; have := HN.out; omega)
    by_cases hlt : m < n
    · have hmI : (m : Int) < (n : Int) := by omega
      obtain ⟨x, hx⟩ : ∃ x, ls[m]? = some x := ⟨ls[m]'(by have := HN.out; omega), List.getElem?_eq_getElem _⟩
      have hv := HT.out.below M.out.below
      rw [HN.out] at hv
      obtain ⟨ab, ao, rfl, hab, hra⟩ := hv.at hx
      have HBX := Lib.hid (HTS.out x (List.mem_of_getElem? hx))
      have HZX := Lib.hid (HZ.out x (List.mem_of_getElem? hx))
      have HTK := Lib.hid (show (ls.take (m + 1)).map txF = (ls.take m).map txF ++ [txF x] from by rw [List.take_add_one, hx, List.map_append]; rfl)
      have h1 : wr.cell? ⟨ab, ao + m, none⟩ = some x.bv := by have := hra 0 _ rfl; rw [Nat.mul_one] at this; exact this
      clear hra
      clear hv hab hx
      obtain ⟨f, hf⟩ : ∃ f, f = txF x := ⟨_, rfl⟩
      have RP := Lib.hid (show ∀ W, Below w.heap.size w W → Calls Tryz.prog 51 #[x.bv] W fun e w' => e = .returned (.agg (rowOf .u8 32 f)) ∧ Below W.heap.size W w' from fun W hb => by rw [hf]; exact rleaf_any x.bv x.bs W (HBX.out.below hb) HZX.out)
      rw [← hf] at HTK
      clear hf
      obtain ⟨ps, hps⟩ : ∃ ps, ps = (ls.take m).map txF := ⟨_, rfl⟩
      rw [← hps] at M HPL HTK ⊢
      clear hps
      have hsz32 := rowOf_size .u8 32 f
      go_upto_region 4 with (first
        | (go_at_call 51; (with_reducible refine (RP.out _ M.out.below).mono ?_); rintro e w5 ⟨rfl, hb⟩; replace M := Lib.hid (M.out.call hb); clear hb)
        | (at_builtin; rw [build32s]; have HR := Lib.hid (heap_alloc_new w5 (.cells (rowOf .u8 32 f) 23)); replace M := Lib.hid (M.out.call (below_alloc w5 (.cells (rowOf .u8 32 f) 23))); generalize w5.alloc (.cells (rowOf .u8 32 f) 23) = w6 at *; (refine wpList_append_hashes rfl (.tmp 11) (.tmp 17) rfl rfl (w.heap.size + 1) _ ps.length _ rfl M.out.own _ [f] rfl (one_hash11 HR.out) (by rw [HPL.out]; show (m + 1) * 32 ≤ _; omega) M.out.size ?_); intro v' w7 ho hg; have M2 := Lib.hid (M.out.more hg ho); clear ho hg HR M))
      go_wp2_with (fail)
      go_roundw
      case rel => exact ⟨m + 1, by omega, by go_num, Lib.hid (by rw [HTK.out]; exact M2.out)⟩
      case measure => simp [intOf]; omega
    · obtain rfl : m = n := by omega
      have HH := Lib.hid (show HashesIn wr (.slice ap ((ls.take m).map txF).length cp) (ls.map txF) from by
        have h := HashesIn.of_own M.out.own
        have e : (ls.take m).map txF = ls.map txF := by rw [HN.out, List.take_length]
        rw [e] at h ⊢
        exact h)
      rw [HPL.out] at HH ⊢
      go_wp2_with (first
        | (go_at_call 52; (with_reducible refine (HRT.out _ _ HH.out).mono ?_); rintro e w5 ⟨rfl, hb⟩; replace M := Lib.hid (M.out.call hb); clear hb)
        | (refine wpList_store_row rfl 23 (.tmp 2) (.tmp 20) rfl w.heap.size (rowOf .u8 32 RT) rfl rfl 23 _ M.out.res (by rw [rowOf_size]; kernel_rfl) (by rw [rowOf_size, rowOf_size]) (rowOf_one _ _ _) ?_))
      refine bodyPost_ret (results_cell_row rfl _ _ w.heap.size 23 (rowOf .u8 32 RT) (0, 0) _ rfl (setRow_heap _ _ _ _ _ _ M.out.res) Tryz.underlying23 rfl (by rw [rowOf_size]; kernel_rfl)) rfl ?_
      exact ⟨rfl, below_setRow M.out.below (Nat.le_refl _) _⟩
end Go.Proofs.YteokgklfljhcaaaGreatDoor
namespace Go.Proofs.YteokgklfljhcaaaGreatDoor
set_option linter.unusedVariables false
set_option linter.unusedSimpArgs false
open Go.RowKit
set_option linter.unusedVariables false
def Kept (X : World → Prop) : Prop := ∀ a b : World, X a → Below a.heap.size a b → X b
structure Kp (w0 w : World) (X : World → Prop) : Prop where
  below : Below w0.heap.size w0 w
  x : X w
  kept : Kept X
theorem Kp.start (w : World) : Kp w w (fun _ => True) := ⟨Below.refl _ _, trivial, fun _ _ h _ => h⟩
theorem Kp.call {w0 w w' : World} {X : World → Prop} (m : Kp w0 w X) (h : Below w.heap.size w w') : Kp w0 w' X := ⟨m.below.trans (h.mono m.below.size), m.kept _ _ m.x h, m.kept⟩
theorem Kp.add {w0 w : World} {X Y : World → Prop} (m : Kp w0 w X) (hy : Y w) (hk : Kept Y) : Kp w0 w (fun w => X w ∧ Y w) := ⟨m.below, ⟨m.x, hy⟩, fun a b h hb => ⟨m.kept a b h.1 hb, hk a b h.2 hb⟩⟩
theorem Kp.new {w0 w : World} {X : World → Prop} (m : Kp w0 w X) (o : Obj) : Kp w0 (w.alloc o) X := m.call (below_alloc w o)
theorem kept_blk (g : Nat) (o : Obj) : Kept (fun w => w.heap[g]? = some o) := fun a b h hb => (hb.block g (Array.getElem?_eq_some_iff.1 h).1).trans h
theorem Kept.and {X Y : World → Prop} (h : Kept X) (k : Kept Y) : Kept (fun w => X w ∧ Y w) := fun a b x hb => ⟨h a b x.1 hb, k a b x.2 hb⟩
end Go.Proofs.YteokgklfljhcaaaGreatDoor

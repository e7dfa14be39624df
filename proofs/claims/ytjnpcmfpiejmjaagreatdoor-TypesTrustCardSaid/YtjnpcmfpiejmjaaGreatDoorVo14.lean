/- Part 14 of the proof. -/
import Derived.Laws.ResultCell
import Derived.Laws.IdiomCopy
import Derived.Laws.MakeOwn
import Derived.Lib.AppendStr
import Derived.Test.YtjnpcmfpiejmjaaGreatDoorVo1
import Derived.Test.YtjnpcmfpiejmjaaGreatDoorVo4
import Derived.Test.YtjnpcmfpiejmjaaGreatDoorVo9
import Derived.Test.YtjnpcmfpiejmjaaGreatDoorVo12
import Derived.Test.YtjnpcmfpiejmjaaGreatDoorVo13
namespace Go.Proofs.YtjnpcmfpiejmjaaGreatDoor
set_option linter.unusedVariables false
set_option linter.unusedSimpArgs false
open Go.RowKit
/-- r is a slice of the turns ts, apart from block g -/
def TurnsAt (w : World) (g : Nat) (r : Value) (ts : List Bool) : Prop :=
  ∃ a cap, r = .slice a ts.length cap ∧ (ts = [] ∨ ∃ tb, a = some ⟨tb, 0, none⟩ ∧ tb ≠ g ∧ ∀ x b, ts[x]? = some b → w.cell? ⟨tb, x, none⟩ = some (.bool b))
theorem TurnsAt.of_own {w : World} {B : Nat} {r : Value} {ts : List Bool} (h : w.ownsRow B 4 1 r ts.length (ts.map Value.bool)) (g : Nat) (hg : w.heap.size ≤ g) : TurnsAt w g r ts := by
  rcases h.2 with ⟨rfl, h0⟩ | ⟨tb, cap, cur, rfl, _, hh, _⟩
  · exact ⟨none, 0, by rw [h0], .inl (List.eq_nil_of_length_eq_zero h0)⟩
  · refine ⟨_, cap, rfl, .inr ⟨tb, rfl, ?_, fun x b hx => ?_⟩⟩
    · have := (Array.getElem?_eq_some_iff.1 hh).1; omega
    · have := h.cells (g := tb) rfl x (.bool b) (by rw [List.getElem?_map, hx]; rfl)
      rw [Addr.add_mid, Nat.zero_add] at this; exact this
theorem TurnsAt.only {w w' : World} {g : Nat} {r : Value} {ts : List Bool} (h : TurnsAt w g r ts) (ho : Only g w w') : TurnsAt w' g r ts := by
  obtain ⟨a, cap, rfl, hx⟩ := h
  refine ⟨a, cap, rfl, ?_⟩
  rcases hx with hx | ⟨tb, rfl, hne, hx⟩
  · exact .inl hx
  · exact .inr ⟨tb, rfl, hne, fun x b hb => ho.cell (hx x b hb) hne⟩
/-- what Fold knows of memory -/
structure FoldM (w wr : World) (g : Nat) (r : Value) (ts : List Bool) (s : Nat → Int) : Prop where
  res : RowAt wr (w.heap.size + 1) .u8 32 32 (fun _ => 0)
  sum : RowAt wr g .u8 32 32 s
  gg : w.heap.size + 1 < g
  turns : TurnsAt wr g r ts
  below : Below w.heap.size w wr
  env : Env wr
  lo : 2 < w.heap.size
theorem FoldM.only {w wr w2 : World} {g : Nat} {r : Value} {ts : List Bool} {s s' : Nat → Int} (m : FoldM w wr g r ts s) (ho : Only g wr w2) (hs : RowAt w2 g .u8 32 32 s') : FoldM w w2 g r ts s' :=
  ⟨(ho.block _ m.res.lt (by have := m.gg; omega)).trans m.res, hs, m.gg, m.turns.only ho, m.below.trans (ho.below (by have := m.gg; omega) m.below.size), ho.env m.env (by have := m.gg; have := m.lo; omega), m.lo⟩
theorem FoldM.calls {w wr w2 : World} {g : Nat} {r : Value} {ts : List Bool} {s : Nat → Int} (m : FoldM w wr g r ts s) (hb : Below wr.heap.size wr w2) : FoldM w w2 g r ts s :=
  m.only (Only.of_below hb) (m.sum.below hb m.sum.lt)
theorem fold_next (s0 : Nat → Int) (ts : List Bool) (ps : List (Nat → Int)) (L k : Nat) (t : Bool) (p : Nat → Int) (h1 : ts.length = L) (h2 : ps.length = L) (hk : k < L) (ht : ts[L - 1 - k]? = some t) (hp : ps[k]? = some p) :
    foldT s0 ((ts.reverse.zip ps).take (k + 1)) = foldStep (foldT s0 ((ts.reverse.zip ps).take k)) (t, p) := by
  have e : (ts.reverse.zip ps)[k]? = some (t, p) := by
    rw [List.getElem?_zip_eq_some]
    refine ⟨?_, hp⟩
    rw [List.getElem?_reverse (by omega), h1]; exact ht
  have e2 : (ts.reverse.zip ps).take (k + 1) = (ts.reverse.zip ps).take k ++ [(t, p)] := by
    rw [List.take_add_one, e]; rfl
  rw [e2, foldT, List.foldl_append]; rfl
theorem path_cell {w wr : World} {a : Option Addr} {L cap : Nat} {ps : List (Nat → Int)} (h : HashesIn w (.slice a L cap) ps) (k : Nat) (p : Nat → Int) (hp : ps[k]? = some p) (hb : Below w.heap.size w wr) :
    ∃ ab ao, a = some ⟨ab, ao, none⟩ ∧ wr.rangeAt ab (ao + k * 32) (rowOf .u8 32 p).toList := by
  obtain ⟨a', cap', e, hc, hm, hx⟩ := h
  injection e with e1 e2 e3
  subst e1
  rcases hx with hx | ⟨ab, ao, rfl, hl, hx⟩
  · subst hx; simp at hp
  · have hk : k < ps.length := (List.getElem?_eq_some_iff.1 hp).1
    refine ⟨ab, ao, rfl, ?_⟩
    have := rangeAt_below (hx k hk) hb hl
    have e : ps.getD k zeroH = p := by simp [List.getD, hp]
    rw [e] at this; exact this
theorem turn_cell {w : World} {a : Option Addr} {g L cap : Nat} {ts : List Bool} (h : TurnsAt w g (.slice a L cap) ts) (k : Nat) (t : Bool) (hp : ts[k]? = some t) :
    ∃ tb, a = some ⟨tb, 0, none⟩ ∧ w.cell? ⟨tb, k, none⟩ = some (.bool t) := by
  obtain ⟨a', cap', e, hx⟩ := h
  injection e with e1 e2 e3
  subst e1
  rcases hx with hx | ⟨tb, rfl, _, hx⟩
  · subst hx; simp at hp
  · exact ⟨tb, rfl, hx k t hp⟩
set_option maxRecDepth 100000 in
set_option maxHeartbeats 400000 in
theorem fold_any (s0 : Nat → Int) (i n : Nat) (v : Value) (ps : List (Nat → Int)) (w : World) (hi : i < n) (hn : n ≤ 9223372036854775807) (hp : HashesIn w v ps) (hl : ps.length = (turnsF i n).length) (he : Env w) :
    Calls Tryz.prog 176 #[.agg (rowOf .u8 32 s0), .int .i64 (i : Int), .int .i64 (n : Int), v] w fun e w' => e = .returned (.tuple #[.agg (rowOf .u8 32 (foldT s0 ((turnsF i n).reverse.zip ps))), .nilIface]) ∧ Below w.heap.size w w' := by
  have HP := Lib.hid hp
  have HI := Lib.hid (show i < n ∧ n ≤ 9223372036854775807 from ⟨hi, hn⟩)
  have hd : decide ((n : Int) ≤ (i : Int)) = false := by simp; omega
  have hd2 : decide (n ≤ i) = false := by simp; omega
  have hb1 : Below w.heap.size w ((w.alloc (.cells (rowOf .u8 32 s0) 32)).alloc (.cells (rowOf .u8 32 (fun _ => 0)) 32)) := (below_alloc w _).trans ((below_alloc _ _).mono (by simp))
  have HB1 := Lib.hid hb1
  have HE1 := Lib.hid (he.below hb1 he.lt)
  have HL := Lib.hid ((RowAt.new w .u8 32 32 s0).alloc (.cells (rowOf .u8 32 (fun _ => 0)) 32))
  have HR := Lib.hid (show RowAt ((w.alloc (.cells (rowOf .u8 32 s0) 32)).alloc (.cells (rowOf .u8 32 (fun _ => 0)) 32)) (w.heap.size + 1) .u8 32 32 (fun _ => 0) from by
    have := RowAt.new (w.alloc (.cells (rowOf .u8 32 s0) 32)) .u8 32 32 (fun _ => 0)
    rw [shSize_alloc] at this; exact this)
  obtain ⟨a, cap, rfl, hc, hm, hju0⟩ := hp
  clear hju0
  unfold maxLen at hm
  obtain ⟨ts, hts⟩ : ∃ ts, ts = turnsF i n := ⟨_, rfl⟩
  rw [← hts] at hl ⊢
  rw [hl] at hc
  have HLEN := Lib.hid hl
  obtain ⟨L, hL⟩ : ∃ L, L = ps.length := ⟨_, rfl⟩
  have HLL := Lib.hid hL
  have HLT := Lib.hid (show ts.length = L by rw [hL, hl])
  rw [← hL] at HP ⊢
  replace hts := Lib.hid hts
  have HLO := Lib.hid he.lt
  clear he hb1 hi hl hL
  go_enter Tryz.func176, Tryz.ntmps176
  go_upto_region 3 with (fail)
  rw [zeros32]
  generalize (w.alloc (.cells (rowOf .u8 32 s0) 32)).alloc (.cells (rowOf .u8 32 (fun _ => 0)) 32) = w1 at *
  go_upto_region 4 with (go_at_call 194; (with_reducible refine (turns_any i n _ HI.out.1 HI.out.2).mono ?_); rintro e w2 ⟨r, rfl, HO, HB2⟩; replace HO := Lib.hid HO; replace HB2 := Lib.hid HB2)
  have HLd := Lib.hid (HL.out.below HB2.out HL.out.lt)
  have HO' := Lib.hid (show w2.ownsRow w1.heap.size 4 1 r ts.length (ts.map Value.bool) from by rw [hts.out]; exact HO.out)
  have HT := Lib.hid (TurnsAt.of_own HO'.out w2.heap.size (Nat.le_refl _))
  have H63 : L ≤ 63 := by rw [← HLT.out, hts.out]; exact turns_len n i HI.out.2 HI.out.1
  have HB12 := Lib.hid (HB1.out.trans (HB2.out.mono HB1.out.size))
  have HE2 := Lib.hid (HE1.out.below HB2.out HE1.out.lt)
  have hb3 := below_alloc w2 (.cells (rowOf .u8 32 s0) 32)
  have M := Lib.hid (show FoldM w (w2.alloc (.cells (rowOf .u8 32 s0) 32)) w2.heap.size r ts s0 from
    ⟨(HR.out.below HB2.out HR.out.lt).below hb3 (HR.out.below HB2.out HR.out.lt).lt, RowAt.new w2 _ _ _ _, by have := (HR.out.below HB2.out HR.out.lt).lt; omega, HT.out.only (Only.of_below hb3), HB12.out.trans (hb3.mono HB12.out.size), HE2.out.below hb3 HE2.out.lt, HLO.out⟩)
  obtain ⟨ra, rcap, hr, hju⟩ := HT.out
  clear hju
  rw [HLT.out] at hr
  subst hr
  clear HO HO' HT HB12 HE2 hb3 HB1 HE1 HL HR HB2
  go_upto_region 7 with (first
    | (refine wpList_load_row rfl 32 (.tmp 4) rfl w.heap.size rfl 32 _ (0, 0) _ HLd.out Tryz.underlying32 rfl (by rw [rowOf_size]; kernel_rfl) ?_)
    | (refine wpList_store_row rfl 32 (.tmp 11) (.tmp 33) rfl w2.heap.size _ rfl rfl 32 _ (heap_alloc_new _ _) (by rw [rowOf_size]; kernel_rfl) (by rw [rowOf_size]; rfl) (rowOf_one _ _ _) ?_; rw [World.setRow_alloc_new]; simp only [Act.put]))
  generalize w2.alloc (.cells (rowOf .u8 32 s0) 32) = w3 at *
  obtain ⟨g, hg⟩ : ∃ g, g = w2.heap.size := ⟨_, rfl⟩
  rw [← hg] at M ⊢
  clear hg HLd w2
  go_wp2_with (fail)
  go_loopw [36] (fun x wr => ∃ k : Nat, k ≤ L ∧ x = .int .i64 (k : Int) ∧ Hid (FoldM w wr g (.slice ra L rcap) ts (foldT s0 ((ts.reverse.zip ps).take k)))) (fun x _ => L - (intOf x).toNat)
  case atStart => exact ⟨0, by omega, rfl, M⟩
  case round =>
    clear M
    obtain ⟨k, hk, rfl, M⟩ := hrel
    by_cases hlt : k < L
    · obtain ⟨t, ht⟩ : ∃ t, ts[L - 1 - k]? = some t := ⟨ts[L - 1 - k]'(by rw [HLT.out]; omega), List.getElem?_eq_getElem _⟩
      obtain ⟨p, hp⟩ : ∃ p, ps[k]? = some p := ⟨ps[k]'(by rw [← HLL.out]; omega), List.getElem?_eq_getElem _⟩
      have HTE := Lib.hid ht
      have HF := Lib.hid (fold_next s0 ts ps L k t p HLT.out HLL.out.symm hlt ht hp)
      have HPC := Lib.hid (path_cell HP.out k p hp M.out.below)
      obtain ⟨ab, ao, rfl, HPR⟩ := HPC.out
      replace HPR := Lib.hid HPR
      clear HPC ht hp
      have HTT := Lib.hid (show ∀ w', TurnsAt w' g (.slice ra L rcap) ts → ∃ tb, ra = some ⟨tb, 0, none⟩ ∧ w'.cell? ⟨tb, L - 1 - k, none⟩ = some (.bool t) from fun w' h => turn_cell h (L - 1 - k) t HTE.out)
      go_upto_region 10 with (first
        | (refine wpList_load_mid rfl 32 (.tmp 39) rfl ab (ao + k * 32) rfl _ _ HPR.out Tryz.underlying32 rfl (by rw [(rowOf_list _ _ _).2]; kernel_rfl) ?_; rw [Array.toArray_toList])
        | (refine wpList_store_row rfl 32 (.tmp 13) (.tmp 40) rfl wr.heap.size _ rfl rfl 32 _ (heap_alloc_new _ _) (by rw [rowOf_size]; kernel_rfl) (by rw [rowOf_size]; rfl) (rowOf_one _ _ _) ?_; rw [World.setRow_alloc_new]; simp only [Act.put]))
      have M5 := Lib.hid (M.out.calls (below_alloc wr (.cells (rowOf .u8 32 p) 32)))
      have RP := Lib.hid (RowAt.new wr .u8 32 32 p)
      have HNE := Lib.hid (show wr.heap.size ≠ g from by have := M.out.sum.lt; omega)
      generalize wr.alloc (.cells (rowOf .u8 32 p) 32) = w5 at *
      obtain ⟨g13, hg13⟩ : ∃ g13, g13 = wr.heap.size := ⟨_, rfl⟩
      rw [← hg13] at RP HNE ⊢
      clear hg13 HPR M
      obtain ⟨tb, rfl, htc⟩ := HTT.out _ M5.out.turns
      have n0 : ((L : Int) - 1 - (k : Int)).toNat = L - 1 - k := by omega
      cases t
      · go_wp2_with (first
          | (refine wpList_load_row rfl 32 (.tmp 11) rfl g rfl 32 _ (0, 0) _ M5.out.sum Tryz.underlying32 rfl (by rw [rowOf_size]; kernel_rfl) ?_)
          | (refine wpList_load_row rfl 32 (.tmp 13) rfl g13 rfl 32 _ (0, 0) _ RP.out Tryz.underlying32 rfl (by rw [rowOf_size]; kernel_rfl) ?_)
          | (go_at_call 133; (with_reducible refine (node_any (foldT s0 ((ts.reverse.zip ps).take k)) p _ M5.out.env).mono ?_); rintro e w6 ⟨rfl, HB6⟩; have M6 := Lib.hid (M5.out.calls HB6); clear HB6)
          | (refine wpList_store_row rfl 32 (.tmp 11) (.tmp 54) rfl g _ rfl rfl 32 _ M6.out.sum (by rw [rowOf_size]; kernel_rfl) (by rw [rowOf_size, rowOf_size]) (rowOf_one _ _ _) ?_))
        go_roundw
        case rel => exact ⟨k + 1, by omega, by go_num, Lib.hid (by rw [HF.out]; exact M6.out.only (Only.setRow w6 g _) (setRow_heap _ _ _ _ _ _ M6.out.sum))⟩
        case measure => simp [intOf]; omega
      · go_wp2_with (first
          | (refine wpList_load_row rfl 32 (.tmp 13) rfl g13 rfl 32 _ (0, 0) _ RP.out Tryz.underlying32 rfl (by rw [rowOf_size]; kernel_rfl) ?_)
          | (refine wpList_load_row rfl 32 (.tmp 11) rfl g rfl 32 _ (0, 0) _ M5.out.sum Tryz.underlying32 rfl (by rw [rowOf_size]; kernel_rfl) ?_)
          | (go_at_call 133; (with_reducible refine (node_any p (foldT s0 ((ts.reverse.zip ps).take k)) _ M5.out.env).mono ?_); rintro e w6 ⟨rfl, HB6⟩; have M6 := Lib.hid (M5.out.calls HB6); clear HB6)
          | (refine wpList_store_row rfl 32 (.tmp 11) (.tmp 51) rfl g _ rfl rfl 32 _ M6.out.sum (by rw [rowOf_size]; kernel_rfl) (by rw [rowOf_size, rowOf_size]) (rowOf_one _ _ _) ?_))
        go_roundw
        case rel => exact ⟨k + 1, by omega, by go_num, Lib.hid (by rw [HF.out]; exact M6.out.only (Only.setRow w6 g _) (setRow_heap _ _ _ _ _ _ M6.out.sum))⟩
        case measure => simp [intOf]; omega
    · replace M : Hid (FoldM w wr g (.slice ra L rcap) ts (foldT s0 (ts.reverse.zip ps))) := by
        have e : (ts.reverse.zip ps).take k = ts.reverse.zip ps := List.take_of_length_le (by rw [List.length_zip, List.length_reverse, HLT.out, ← HLL.out]; omega)
        rw [← e]; exact M
      go_wp2_with (first
        | (refine wpList_load_row rfl 32 (.tmp 11) rfl g rfl 32 _ (0, 0) _ M.out.sum Tryz.underlying32 rfl (by rw [rowOf_size]; kernel_rfl) ?_)
        | (refine wpList_store_row rfl 32 (.tmp 8) (.tmp 56) rfl (w.heap.size + 1) _ rfl rfl 32 _ M.out.res (by rw [rowOf_size]; kernel_rfl) (by rw [rowOf_size, rowOf_size]) (rowOf_one _ _ _) ?_))
      refine bodyPost_ret (results_cell_tmp_row rfl _ _ (w.heap.size + 1) 32 _ (0, 0) _ rfl (setRow_heap _ _ _ _ _ _ M.out.res) Tryz.underlying32 rfl (by rw [rowOf_size]; kernel_rfl)) rfl ?_
      exact ⟨rfl, below_setRow M.out.below (by omega) _⟩
end Go.Proofs.YtjnpcmfpiejmjaaGreatDoor
namespace Go.Proofs.YtjnpcmfpiejmjaaGreatDoor
set_option linter.unusedVariables false
set_option linter.unusedSimpArgs false
open Go.RowKit
set_option maxRecDepth 100000
theorem setCells_cells (g : Nat) (t : TypeId) : ∀ (vs : List Value) (o : Nat) (w : World) (cs : Array Value), w.heap[g]? = some (.cells cs t (0, 0)) → o + vs.length ≤ cs.size →
    ∃ cs' : Array Value, (w.setCells g o vs).heap[g]? = some (.cells cs' t (0, 0)) ∧ cs'.size = cs.size ∧ ∀ j, cs'[j]? = if o ≤ j ∧ j < o + vs.length then vs[j - o]? else cs[j]?
  | [], o, w, cs, h, _ => ⟨cs, h, rfl, fun j => by rw [if_neg (by simp)]⟩
  | v :: r, o, w, cs, h, hl => by
    have h1 := heap_setCell_same w g o _ t v h
    obtain ⟨cs', h2, h3, h4⟩ := setCells_cells g t r (o + 1) (w.setCell ⟨g, o, none⟩ v) _ h1 (by simp at hl ⊢; omega)
    refine ⟨cs', h2, by rw [h3]; simp, fun j => ?_⟩
    rw [h4 j]
    simp only [List.length_cons] at hl ⊢
    by_cases e : j = o
    · subst e
      rw [if_neg (by omega), if_pos (by omega)]
      have : j < cs.size := by omega
      simp [this]
    · by_cases e2 : o + 1 ≤ j ∧ j < o + 1 + r.length
      · rw [if_pos e2, if_pos (by omega), show j - o = (j - (o + 1)) + 1 by omega]; simp
      · rw [if_neg e2, if_neg (by omega), Array.getElem?_setIfInBounds_ne (by omega)]
/-- block g has room for n hashes; the first m are L -/
def Leaves (w : World) (g n m : Nat) (L : Nat → Nat → Int) : Prop := ∃ cs : Array Value, w.heap[g]? = some (.cells cs 32 (0, 0)) ∧ cs.size = n * 32 ∧ ∀ i, i < m → ∀ j, j < 32 → cs[i * 32 + j]? = some (.int .u8 (L i j))
theorem Leaves.put {w : World} {g n m : Nat} {L : Nat → Nat → Int} (h : Leaves w g n m L) (hm : m < n) : Leaves (w.setCells g (m * 32) (rowOf .u8 32 (L m)).toList) g n (m + 1) L := by
  obtain ⟨cs, h1, h2, h3⟩ := h
  have hl : (rowOf .u8 32 (L m)).toList.length = 32 := (rowOf_list _ _ _).2
  obtain ⟨cs', a, b, c⟩ := setCells_cells g 32 (rowOf .u8 32 (L m)).toList (m * 32) w cs h1 (by rw [hl, h2]; omega)
  refine ⟨cs', a, b.trans h2, fun k hk j hj => ?_⟩
  rw [c, hl]
  by_cases e : k = m
  · subst e
    rw [if_pos (by omega), show k * 32 + j - k * 32 = j by omega, Array.getElem?_toList, rowOf_get _ _ _ _ hj]
  · rw [if_neg (by omega)]
    exact h3 k (by omega) j hj
theorem Leaves.below {w w' : World} {B g n m : Nat} {L : Nat → Nat → Int} (h : Leaves w g n m L) (hb : Below B w w') (hg : g < B) : Leaves w' g n m L := by
  obtain ⟨cs, h1, h2, h3⟩ := h
  exact ⟨cs, (hb.block g hg).trans h1, h2, h3⟩
theorem Leaves.lt {w : World} {g n m : Nat} {L : Nat → Nat → Int} (h : Leaves w g n m L) : g < w.heap.size := by
  obtain ⟨cs, h1, _⟩ := h
  exact (Array.getElem?_eq_some_iff.1 h1).1
theorem Leaves.there {w : World} {g n m : Nat} {L : Nat → Nat → Int} (h : Leaves w g n m L) (i : Nat) (hi : i < n) {s : Nat} (hs : s = 32) : w.there g (i * 32) s := fun j hj => by
  obtain ⟨cs, h1, h2, h3⟩ := h
  subst hs
  have : i * 32 + j < cs.size := by rw [h2]; omega
  exact ⟨by rw [cell_of_row _ _ _ _ _ _ h1]; simp [this], frozen_of_row _ _ _ _ _ h1⟩
def leavesL (n : Nat) (L : Nat → Nat → Int) : List (Nat → Int) := (List.range n).map L
theorem Leaves.hashes {w : World} {g n : Nat} {L : Nat → Nat → Int} (h : Leaves w g n n L) (hn : n ≤ maxLen) : HashesIn w (.slice (some ⟨g, 0, none⟩) n n) (leavesL n L) := by
  have hl : (leavesL n L).length = n := by simp [leavesL]
  have hlt := h.lt
  obtain ⟨cs, h1, h2, h3⟩ := h
  refine ⟨_, n, by rw [hl], by omega, hn, .inr ⟨g, 0, rfl, hlt, fun i hi j v hv => ?_⟩⟩
  rw [hl] at hi
  have hj : j < 32 := by have := (List.getElem?_eq_some_iff.1 hv).1; rw [(rowOf_list _ _ _).2] at this; exact this
  have e : (leavesL n L).getD i zeroH = L i := by simp [leavesL, List.getD, hi]
  rw [e, Array.getElem?_toList, rowOf_get _ _ _ _ hj] at hv
  rw [cell_of_row _ _ _ _ _ _ h1, Nat.zero_add, h3 i hi j hj]; exact hv
theorem make_hashes (n : Nat) (hn : n ≤ 1024) : ∃ C : Array Value, C.size = n * 32 ∧ ∀ w : World, (Instr.makeSlice 109 (.int .i64 (n : Int)) (.int .i64 (n : Int))).run Tryz.prog w = .ok (.slice (some ⟨w.heap.size, 0, none⟩) n n) (w.alloc (.cells C 32)) := by
  obtain ⟨i0, hi, hz0, hz1, hz2⟩ := info_parts Tryz.info25
  refine ⟨madeCells (Value.agg (rowOf .u8 32 (fun _ => 0))).cells (n * 32), size_madeCells _ _, fun w => ?_⟩
  have := run_makeSlice w 109 32 i0 _ Tryz.underlying109 hi hz0 .i64 .i64 (n : Int) (n : Int) (by omega) (by omega) (by rw [hz1]; omega) (by rw [hz2]; omega) (by omega)
  rw [Int.toNat_natCast, hz1] at this
  exact this
theorem Leaves.store {w : World} {g n m : Nat} {L : Nat → Nat → Int} (h : Leaves w g n m L) (hm : m < n) (P : Nat → Int) : (storeCells ⟨g, m * 32, none⟩ (rowOf .u8 32 P).toList).run Tryz.prog w = .ok () (w.setCells g (m * 32) (rowOf .u8 32 P).toList) := by
  have ht := h.there m hm rfl
  have hl : (rowOf .u8 32 P).toList.length = 32 := (rowOf_list _ _ _).2
  exact run_storeCells_cells g (m * 32) (rowOf .u8 32 P).toList 0 w (fun j hj => (ht j (by omega)).1) (fun j hj => (ht j (by omega)).2) (fun v hv => (Array.all_eq_true_iff_forall_mem.1 (rowOf_one _ _ _)) v (by simpa using hv))
structure PubM (w wr : World) (F : Nat → Int) (D k : Nat) (g n m : Nat) : Prop where
  below : Below w.heap.size w wr
  seed : RowAt wr w.heap.size .u8 32 32 F
  par : wr.heap[w.heap.size + 1]? = some (.cells #[.int .i64 (D : Int), .int .i64 (k : Int)] 42 (0, 0))
  lv : Leaves wr g n m (fun i => pubF F (i : Int) D)
  hg : w.heap.size + 1 < g
theorem PubM.call {w wr w2 : World} {F : Nat → Int} {D k g n m : Nat} (h : PubM w wr F D k g n m) (hb : Below wr.heap.size wr w2) : PubM w w2 F D k g n m :=
  ⟨h.below.trans (hb.mono h.below.size), h.seed.below hb h.seed.lt, (hb.block _ (Array.getElem?_eq_some_iff.1 h.par).1).trans h.par, h.lv.below hb h.lv.lt, h.hg⟩
theorem PubM.put {w wr : World} {F : Nat → Int} {D k g n m : Nat} (h : PubM w wr F D k g n m) (hm : m < n) : PubM w (wr.setCells g (m * 32) (rowOf .u8 32 (pubF F (m : Int) D)).toList) F D k g n (m + 1) := by
  have ho := Only.setCells g (rowOf .u8 32 (pubF F (m : Int) D)).toList (m * 32) wr
  have hg := h.hg
  exact ⟨h.below.trans (ho.below (by omega) h.below.size), (ho.block _ h.seed.lt (by omega)).trans h.seed, (ho.block _ (Array.getElem?_eq_some_iff.1 h.par).1 (by omega)).trans h.par, h.lv.put hm, h.hg⟩
end Go.Proofs.YtjnpcmfpiejmjaaGreatDoor
namespace Go.Proofs.YtjnpcmfpiejmjaaGreatDoor
set_option linter.unusedVariables false
set_option linter.unusedSimpArgs false
open Go.RowKit
set_option maxRecDepth 100000
theorem key_start (w : World) (F : Nat → Int) (D E : Int) : Below w.heap.size w ((w.alloc (.cells (rowOf .u8 32 F) 32)).alloc (.cells #[.int .i64 D, .int .i64 E] 42)) ∧ RowAt ((w.alloc (.cells (rowOf .u8 32 F) 32)).alloc (.cells #[.int .i64 D, .int .i64 E] 42)) w.heap.size .u8 32 32 F ∧ ((w.alloc (.cells (rowOf .u8 32 F) 32)).alloc (.cells #[.int .i64 D, .int .i64 E] 42)).heap[w.heap.size + 1]? = some (.cells #[.int .i64 D, .int .i64 E] 42 (0, 0)) := by
  refine ⟨(below_alloc w _).trans ((below_alloc _ _).mono (by simp)), (RowAt.new w _ _ _ _).alloc _, ?_⟩
  have := heap_alloc_new (w.alloc (.cells (rowOf .u8 32 F) 32)) (.cells #[.int .i64 D, .int .i64 E] 42)
  rw [shSize_alloc] at this; exact this
/-- the key's leaves -/
def keyL (F : Nat → Int) (D k : Nat) : List (Nat → Int) := leavesL (2 ^ k) (fun i => pubF F (i : Int) D)
def kRootR (F : Nat → Int) (D E : Int) : (Nat → Int) × Option Nat := if kOk D E then (rootF (keyL F D.toNat E.toNat), none) else (fun _ => 0, some 20)
/-- behind Root's entry: seed, params, the result's zeros -/
theorem key_start3 (w : World) (F : Nat → Int) (D E : Int) (w1 : World) (h1 : ((w.alloc (.cells (rowOf .u8 32 F) 32)).alloc (.cells #[.int .i64 D, .int .i64 E] 42)).alloc (.cells (rowOf .u8 32 (fun _ => 0)) 32) = w1) : Below w.heap.size w w1 ∧ RowAt w1 w.heap.size .u8 32 32 F ∧ w1.heap[w.heap.size + 1]? = some (.cells #[.int .i64 D, .int .i64 E] 42 (0, 0)) ∧ RowAt w1 (w.heap.size + 1 + 1) .u8 32 32 (fun _ => 0) := by
  subst h1
  obtain ⟨hb, hf, hp⟩ := key_start w F D E
  refine ⟨hb.trans ((below_alloc _ _).mono (by simp; omega)), hf.alloc _, ((below_alloc _ _).block _ (Array.getElem?_eq_some_iff.1 hp).1).trans hp, ?_⟩
  have := RowAt.new ((w.alloc (.cells (rowOf .u8 32 F) 32)).alloc (.cells #[.int .i64 D, .int .i64 E] 42)) .u8 32 32 (fun _ => 0)
  rw [shSize_alloc, shSize_alloc] at this; exact this
end Go.Proofs.YtjnpcmfpiejmjaaGreatDoor
namespace Go.Proofs.YtjnpcmfpiejmjaaGreatDoor
set_option linter.unusedVariables false
set_option linter.unusedSimpArgs false
open Go.RowKit
set_option maxRecDepth 100000
theorem strCells_nums (s : ByteArray) : Lib.strCells s = byteVals (numsOf s) := by
  unfold Lib.strCells byteVals numsOf
  rw [List.map_map]
  rfl
theorem run_append_str (w : World) (base : Nat) (v : Value) (n : Nat) (vs : List Value) (hown : w.ownsRow base 5 1 v n vs) (s : ByteArray) (hl : n + s.size ≤ 140737488355328) (hb : base ≤ w.heap.size) :
    ∃ v' w', (Builtin.append_ #[23, 9] 23 #[v, .string s]).run Tryz.prog w = .ok v' w' ∧ w'.ownsRow base 5 1 v' (n + s.size) (vs ++ byteVals (numsOf s)) ∧ w.grownBy w' v.ownBlock := by
  obtain ⟨i0, hi, hz0, hz1, hz2⟩ := info_parts infoU8
  obtain ⟨v', w', h1, h2, h3, _⟩ := Lib.run_append_own_string (P := Tryz.prog) w base 23 9 23 5 i0 Tryz.underlying23 Tryz.underlying9 hi hz0 hz1 hz2 v n vs hown s (by unfold maxLen; omega) hl hb
  rw [strCells_nums] at h2
  exact ⟨v', w', h1, h2, h3⟩
theorem wpList_append_str {w : World} {ops : Array Oper} {rest : List Oper} {o : Oper} {a : Act} {Q : Exit → Act → World → Prop} (hgd : o.guard = none) (s x : Operand)
    (ho : o.op = .call { callee := .builtin .append, args := #[s, x], argTypes := #[23, 9] }) (hty : o.type = 23)
    (base : Nat) (v : Value) (n : Nat) (vs : List Value) (hs : a.eval s = v) (hown : w.ownsRow base 5 1 v n vs) (y : ByteArray) (hx : a.eval x = .string y) (hl : n + y.size ≤ 140737488355328) (hb : base ≤ w.heap.size)
    (h : ∀ v' w', w'.ownsRow base 5 1 v' (n + y.size) (vs ++ byteVals (numsOf y)) → w.grownBy w' v.ownBlock → wpList Tryz.prog ops Q rest (a.put o.dst v') w') : wpList Tryz.prog ops Q (o :: rest) a w := by
  refine wpList_plain hgd fun K hK => ?_
  obtain ⟨v', w', hr, h1, h2⟩ := run_append_str w base v n vs hown y hl hb
  unfold Oper.wp execOp
  simp only [ho, hty, resolve, invoke, builtin, Sem.run_bind, Sem.run_pure, Result.andThen_ok, List.map_toArray, List.map_cons, List.map_nil, hs, hx, hr]
  exact hK _ _ (h v' w' h1 h2)
theorem owns_lit1 (w : World) (x : Int) : (w.alloc (.cells #[.int .u8 x] 5)).ownsRow w.heap.size 5 1 (.slice (some ⟨w.heap.size, 0, none⟩) 1 1) 1 [.int .u8 x] :=
  ⟨rfl, .inr ⟨w.heap.size, 1, _, rfl, Nat.le_refl _, heap_alloc_new w _, by omega, by decide, rfl, rfl⟩⟩
def seedF (s : ByteArray) : Nat → Int := sumF (5 :: numsOf s)
end Go.Proofs.YtjnpcmfpiejmjaaGreatDoor
namespace Go.Proofs.YtjnpcmfpiejmjaaGreatDoor
set_option linter.unusedVariables false
set_option linter.unusedSimpArgs false
open Go.RowKit
set_option maxRecDepth 100000
/-- what the groups' check answers: the number, how many bytes, the error -/
def chk (n : Nat) (size last most : Nat) : Nat × Nat × Option Nat :=
  if (1 < size ∧ last = 0) ∨ (size = 10 ∧ 1 < last) then (0, 0, some 3) else if most < n then (0, 0, some 4) else (n, size, none)
/-- what varint answers from byte i on -/
def rdFrom (xs : List Int) (most : Nat) : Nat → Nat → Nat × Nat × Option Nat
  | 0, _ => if xs.length < 10 then (0, 0, some 12) else (0, 0, some 3)
  | k + 1, i => if (xs.getD i 0) < 128 then chk (accF xs (i + 1)) (i + 1) (xs.getD i 0).toNat most else rdFrom xs most k (i + 1)
def rdF (xs : List Int) (most : Nat) : Nat × Nat × Option Nat := rdFrom xs most (min xs.length 10) 0
def tripV (r : Nat × Nat × Option Nat) : Value := .tuple #[.int .u64 (r.1 : Int), .int .i64 (r.2.1 : Int), errV r.2.2]
set_option maxRecDepth 100000 in
set_option maxHeartbeats 400000 in
theorem checked_any (n most : Nat) (ab ao size cap : Nat) (last : Nat) (w : World) (hs0 : 0 < size) (hs : size ≤ 10) (hl : last < 256) (hc : w.cell? ⟨ab, ao + (size - 1), none⟩ = some (.int .u8 (last : Int))) :
    Calls Tryz.prog 195 #[.int .u64 (n : Int), .slice (some ⟨ab, ao, none⟩) size cap, .int .u64 (most : Int)] w fun e w' => e = .returned (tripV (chk n size last most)) ∧ w' = w := by
  obtain ⟨s, rfl⟩ : ∃ s, size = s + 1 := ⟨size - 1, by omega⟩
  rw [Nat.add_sub_cancel] at hc
  go_enter Tryz.func195, Tryz.ntmps195
  go_wp2_with (fail)
  all_goals go_ret3
  all_goals refine ⟨?_, rfl⟩
  all_goals (try simp only [beq_eq_false_iff_ne, beq_iff_eq, ne_eq] at *)
  all_goals first
    | (rw [show chk n (s + 1) last most = (0, 0, some 3) by unfold chk; rw [if_pos (by omega)]]; rfl)
    | (rw [show chk n (s + 1) last most = (0, 0, some 4) by unfold chk; rw [if_neg (by omega), if_pos (by omega)]]; rfl)
    | (rw [show chk n (s + 1) last most = (n, s + 1, none) by unfold chk; rw [if_neg (by omega), if_neg (by omega)]]; first | rfl | (have e : s = 9 := (by omega); subst e; rfl))
theorem and128 (b : Nat) (h : b < 256) : bits .andNot .u8 (b : Int) 128 = ((b % 128 : Nat) : Int) := by
  have : ∀ b : Fin 256, bits .andNot .u8 (b.val : Int) 128 = ((b.val % 128 : Nat) : Int) := by decide +kernel
  exact this ⟨b, h⟩
/-- the groups so far, and the next one -/
theorem or_group (a g k : Nat) (ha : a < 128 ^ k) (hk : k ≤ 9) :
    bits .or .u64 (a : Int) ((g * 128 ^ k % 18446744073709551616 : Nat) : Int) = ((a + g * 128 ^ k % 18446744073709551616 : Nat) : Int) := by
  have hp : (128 : Nat) ^ k ≤ 128 ^ 9 := Nat.pow_le_pow_right (by decide) hk
  have h9 : (128 : Nat) ^ 9 = 9223372036854775808 := by decide
  rw [bits_or_u64_nat _ _ (by omega) (by omega)]
  congr 1
  have e : (128 : Nat) ^ k = 2 ^ (7 * k) := by rw [Nat.pow_mul]
  have h64 : (18446744073709551616 : Nat) = 2 ^ (7 * k) * 2 ^ (64 - 7 * k) := by
    rw [← Nat.pow_add, show 7 * k + (64 - 7 * k) = 64 by omega]
  have e2 : g * 128 ^ k % 18446744073709551616 = 2 ^ (7 * k) * (g % 2 ^ (64 - 7 * k)) := by
    rw [h64, e, Nat.mul_comm g, Nat.mul_mod_mul_left]
  rw [e2, Nat.or_comm, Nat.add_comm]
  rw [e] at ha
  exact (Nat.two_pow_add_eq_or_of_lt ha _).symm
theorem acc_step (xs : List Int) (k b : Nat) (hk : k ≤ 9) (hb : xs.getD k 0 = (b : Int)) :
    bits .or .u64 ((accF xs k : Nat) : Int) (IntKind.u64.wrap ((b : Int) % 128 * 2 ^ (7 * k))) = ((accF xs (k + 1) : Nat) : Int) := by
  have h := or_group (accF xs k) (b % 128) k (accF_lt xs k hk) hk
  have e : IntKind.u64.wrap ((b : Int) % 128 * 2 ^ (7 * k)) = ((b % 128 * 128 ^ k % 18446744073709551616 : Nat) : Int) := by
    have e1 : (2 : Int) ^ (7 * k) = ((128 ^ k : Nat) : Int) := by
      rw [Int.pow_mul, Int.natCast_pow]; rfl
    rw [IntKind.wrap_u64, e1, show (b : Int) % 128 = ((b % 128 : Nat) : Int) by omega, ← Int.natCast_mul]
    generalize b % 128 * 128 ^ k = X
    omega
  rw [e, h]
  show _ = ((accF xs k + (xs.getD k 0).toNat % 128 * 128 ^ k % 18446744073709551616 : Nat) : Int)
  rw [hb, Int.toNat_natCast]
theorem rd_step (xs : List Int) (most k b : Nat) (hk : k < min xs.length 10) (hb : xs.getD k 0 = (b : Int)) :
    rdFrom xs most (min xs.length 10 - k) k = if b < 128 then chk (accF xs (k + 1)) (k + 1) b most else rdFrom xs most (min xs.length 10 - (k + 1)) (k + 1) := by
  rw [show min xs.length 10 - k = (min xs.length 10 - (k + 1)) + 1 by omega, rdFrom, hb, Int.toNat_natCast]
  by_cases h : b < 128
  · rw [if_pos h, if_pos (by omega)]
  · rw [if_neg h, if_neg (by omega)]
theorem sliceB_first (ab ao n c q : Nat) (hq : q ≤ c) (w : World) : (Instr.slice 23 (.slice (some ⟨ab, ao, none⟩) n c) none (some (.int .i64 (q : Int))) none).run Tryz.prog w = .ok (.slice (some ⟨ab, ao, none⟩) q c) w := by
  rw [sliceBhi _ _ _ _ hq]
  unfold cutA
  split
  · rfl
  · show Result.ok (Value.slice (some (Addr.add ⟨ab, ao, none⟩ 0)) _ _) w = _
    rw [Addr.add_mid]; rfl
set_option maxRecDepth 100000 in
set_option maxHeartbeats 400000 in
theorem varint_any (v : Value) (xs : List Int) (most : Nat) (w : World) (hx : BytesIn w v xs) (hb : bytesOk xs) :
    Calls Tryz.prog 185 #[v, .int .u64 (most : Int)] w fun e w' => e = .returned (tripV (rdF xs most)) ∧ w' = w := by
  obtain ⟨a, c, rfl, hc, hm, hx⟩ := hx
  have HX := Lib.hid hx
  have HB := Lib.hid hb
  have HC := Lib.hid hc
  have HM := Lib.hid hm
  clear hx hb hc hm
  obtain ⟨m, hm⟩ : ∃ m, m = min xs.length 10 := ⟨_, rfl⟩
  have hmin : ((min xs.length 10 : Nat) : Int) = min (xs.length : Int) 10 := by omega
  have HMM := Lib.hid hm
  clear hm
  go_enter Tryz.func185, Tryz.ntmps185
  go_upto_region 2 with (fail)
  all_goals clear hmin
  all_goals go_loopw [4, 11] (fun n i wr => ∃ k : Nat, k ≤ min xs.length 10 ∧ n = .int .u64 ((accF xs k : Nat) : Int) ∧ i = .int .i64 k ∧ wr = w ∧ rdF xs most = rdFrom xs most (min xs.length 10 - k) k) (fun _ i _ => 10 - (intOf i).toNat)
  case atStart => exact ⟨0, by omega, rfl, rfl, rfl, rfl⟩
  try (case atStart => exact ⟨0, by omega, rfl, rfl, rfl, rfl⟩)
  all_goals obtain ⟨k, hk, rfl, rfl, rfl, hrd⟩ := hrel
  all_goals
    by_cases hlt : k < min xs.length 10
    · obtain ⟨ab, ao, rfl, hcell⟩ := HX.out.resolve_left (by rintro rfl; simp at hlt)
      obtain ⟨b, hb⟩ : ∃ b : Nat, xs[k]? = some (b : Int) ∧ b < 256 := by
        have hk1 : k < xs.length := by omega
        have := HB.out xs[k] (List.getElem_mem hk1)
        exact ⟨xs[k].toNat, by rw [List.getElem?_eq_getElem hk1]; congr 1; omega, by omega⟩
      have hc := hcell k _ hb.1
      have ha := and128 b hb.2
      have hk1 : (k : Int) < xs.length := by omega
      have hk2 : (k : Int) < 10 := by omega
      have hgd : xs.getD k 0 = (b : Int) := by rw [List.getD, hb.1]; rfl
      have hor := acc_step xs k b (by omega) hgd
      have hst := rd_step xs most k b hlt hgd
      have HC' := HC.out
      have hsl := sliceB_first ab ao xs.length c (k + 1) (by omega)
      rw [show ((k + 1 : Nat) : Int) = (k : Int) + 1 by omega] at hsl
      have hck := checked_any (accF xs (k + 1)) most ab ao (k + 1) c b wr (by omega) (by omega) hb.2 (by rw [Nat.add_sub_cancel]; exact hc)
      replace hck := Lib.hid hck
      have HST := Lib.hid (hrd.trans hst)
      clear hst hrd hgd hcell HC'
      have hb2 := hb.2
      clear hb
      generalize hacc : accF xs (k + 1) = acc1 at *
      replace hacc := Lib.hid hacc
      by_cases h128 : b < 128
      · have HR := HST.out
        rw [if_pos h128] at HR
        replace HR := Lib.hid HR
        clear HST
        go_wp2_with (go_at_call 195; (with_reducible refine hck.out.mono ?_); rintro e w2 ⟨rfl, rfl⟩; simp only [tripV])
        go_ret3
        exact ⟨by rw [HR.out]; rfl, rfl⟩
      · have HR := HST.out
        rw [if_neg h128] at HR
        replace HR := Lib.hid HR
        clear HST
        go_wp2_with (fail)
        go_roundw
        case rel => exact ⟨k + 1, by omega, by rw [hacc.out], rfl, trivial, HR.out⟩
        case measure => simp [intOf]; omega
    · have hk1 : ¬ (k : Int) < min (xs.length : Int) 10 := by omega
      have HRD := Lib.hid (show rdF xs most = if xs.length < 10 then (0, 0, some 12) else (0, 0, some 3) by rw [hrd, show min xs.length 10 - k = 0 by omega]; rfl)
      clear hrd HX
      go_wp2_with (fail)
      all_goals go_ret3
      all_goals rw [HRD.out]
      all_goals first
        | (rw [if_pos (by omega)]; exact ⟨rfl, rfl⟩)
        | (rw [if_neg (by omega)]; exact ⟨rfl, rfl⟩)
end Go.Proofs.YtjnpcmfpiejmjaaGreatDoor

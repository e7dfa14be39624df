/- Fold: the root that a path makes. -/
import Derived.Test.YtbppainejdphpaaDoorShTurns
import Derived.Laws.ResultCell
import Derived.Test.YtbppainejdphpaaDoorRes
namespace Go.Proofs.YtbppainejdphpaaDoor
open Go.RowKit
/-- r is a slice of the turns ts, apart from block g -/
def TurnsAt (w : World) (g : Nat) (r : Value) (ts : List Bool) : Prop :=
  ∃ a cap, r = .slice a ts.length cap ∧ (ts = [] ∨ ∃ tb, a = some ⟨tb, 0, none⟩ ∧ tb ≠ g ∧ ∀ x b, ts[x]? = some b → w.cell? ⟨tb, x, none⟩ = some (.bool b))
theorem TurnsAt.of_own {w : World} {B : Nat} {r : Value} {ts : List Bool} (h : w.ownsRow B 4 1 r ts.length (ts.map Value.bool)) (g : Nat) (hg : w.heap.size ≤ g) : TurnsAt w g r ts := by
  rcases h.2 with ⟨rfl, h0⟩ | ⟨tb, cap, cur, rfl, _, hh, _⟩
  · exact ⟨none, 0, by rw [h0], .inl (List.eq_nil_of_length_eq_zero h0)⟩
  · refine ⟨_, cap, rfl, .inr ⟨tb, rfl, ?_, fun x b hx => ?_⟩⟩
    · have := (Array.getElem?_eq_some_iff.1 hh).1; omega
    · have := h.cells (g := tb) rfl x (.bool b) (by rw [List.getElem?_map, hx]; rfl)
      rw [Addr.add_mid, Nat.zero_add] at this; exact this
theorem TurnsAt.only {w w' : World} {g : Nat} {r : Value} {ts : List Bool} (h : TurnsAt w g r ts) (ho : Only g w w') : TurnsAt w' g r ts := by
  obtain ⟨a, cap, rfl, hx⟩ := h
  refine ⟨a, cap, rfl, ?_⟩
  rcases hx with hx | ⟨tb, rfl, hne, hx⟩
  · exact .inl hx
  · exact .inr ⟨tb, rfl, hne, fun x b hb => ho.cell (hx x b hb) hne⟩
/-- what Fold knows of memory -/
structure FoldM (w wr : World) (g : Nat) (r : Value) (ts : List Bool) (s : Nat → Int) : Prop where
  res : RowAt wr (w.heap.size + 1) .u8 32 25 (fun _ => 0)
  sum : RowAt wr g .u8 32 25 s
  gg : w.heap.size + 1 < g
  turns : TurnsAt wr g r ts
  below : Below w.heap.size w wr
  env : Env wr
  lo : 1 < w.heap.size
theorem FoldM.only {w wr w2 : World} {g : Nat} {r : Value} {ts : List Bool} {s s' : Nat → Int} (m : FoldM w wr g r ts s) (ho : Only g wr w2) (hs : RowAt w2 g .u8 32 25 s') : FoldM w w2 g r ts s' :=
  ⟨(ho.block _ m.res.lt (by have := m.gg; omega)).trans m.res, hs, m.gg, m.turns.only ho, m.below.trans (ho.below (by have := m.gg; omega) m.below.size), ho.env m.env (by have := m.gg; have := m.lo; omega), m.lo⟩
theorem FoldM.calls {w wr w2 : World} {g : Nat} {r : Value} {ts : List Bool} {s : Nat → Int} (m : FoldM w wr g r ts s) (hb : Below wr.heap.size wr w2) : FoldM w w2 g r ts s :=
  m.only (Only.of_below hb) (m.sum.below hb m.sum.lt)
theorem fold_next (s0 : Nat → Int) (ts : List Bool) (ps : List (Nat → Int)) (L k : Nat) (t : Bool) (p : Nat → Int) (h1 : ts.length = L) (h2 : ps.length = L) (hk : k < L) (ht : ts[L - 1 - k]? = some t) (hp : ps[k]? = some p) :
    foldT s0 ((ts.reverse.zip ps).take (k + 1)) = foldStep (foldT s0 ((ts.reverse.zip ps).take k)) (t, p) := by
  have e : (ts.reverse.zip ps)[k]? = some (t, p) := by
    rw [List.getElem?_zip_eq_some]
    refine ⟨?_, hp⟩
    rw [List.getElem?_reverse (by omega), h1]; exact ht
  have e2 : (ts.reverse.zip ps).take (k + 1) = (ts.reverse.zip ps).take k ++ [(t, p)] := by
    rw [List.take_add_one, e]; rfl
  rw [e2, foldT, List.foldl_append]; rfl
theorem path_cell {w wr : World} {a : Option Addr} {L cap : Nat} {ps : List (Nat → Int)} (h : HashesIn w (.slice a L cap) ps) (k : Nat) (p : Nat → Int) (hp : ps[k]? = some p) (hb : Below w.heap.size w wr) :
    ∃ ab ao, a = some ⟨ab, ao, none⟩ ∧ wr.rangeAt ab (ao + k * 32) (rowOf .u8 32 p).toList := by
  obtain ⟨a', cap', e, hc, hm, hx⟩ := h
  injection e with e1 e2 e3
  subst e1
  rcases hx with hx | ⟨ab, ao, rfl, hl, hx⟩
  · subst hx; simp at hp
  · have hk : k < ps.length := (List.getElem?_eq_some_iff.1 hp).1
    refine ⟨ab, ao, rfl, ?_⟩
    have := rangeAt_below (hx k hk) hb hl
    have e : ps.getD k zeroH = p := by simp [List.getD, hp]
    rw [e] at this; exact this
theorem turn_cell {w : World} {a : Option Addr} {g L cap : Nat} {ts : List Bool} (h : TurnsAt w g (.slice a L cap) ts) (k : Nat) (t : Bool) (hp : ts[k]? = some t) :
    ∃ tb, a = some ⟨tb, 0, none⟩ ∧ w.cell? ⟨tb, k, none⟩ = some (.bool t) := by
  obtain ⟨a', cap', e, hx⟩ := h
  injection e with e1 e2 e3
  subst e1
  rcases hx with hx | ⟨tb, rfl, _, hx⟩
  · subst hx; simp at hp
  · exact ⟨tb, rfl, hx k t hp⟩
set_option maxRecDepth 100000 in
set_option maxHeartbeats 400000 in
theorem fold_any (s0 : Nat → Int) (i n : Nat) (v : Value) (ps : List (Nat → Int)) (w : World) (hi : i < n) (hn : n ≤ 9223372036854775807) (hp : HashesIn w v ps) (hl : ps.length = (turnsF i n).length) (he : Env w) :
    Calls Tryd.prog 21 #[.agg (rowOf .u8 32 s0), .int .i64 (i : Int), .int .i64 (n : Int), v] w fun e w' => e = .returned (.tuple #[.agg (rowOf .u8 32 (foldT s0 ((turnsF i n).reverse.zip ps))), .nilIface]) ∧ Below w.heap.size w w' := by
  have HP := Lib.hid hp
  have HI := Lib.hid (show i < n ∧ n ≤ 9223372036854775807 from ⟨hi, hn⟩)
  have hd : decide ((n : Int) ≤ (i : Int)) = false := by simp; omega
  have hd2 : decide (n ≤ i) = false := by simp; omega
  have hb1 : Below w.heap.size w ((w.alloc (.cells (rowOf .u8 32 s0) 25)).alloc (.cells (rowOf .u8 32 (fun _ => 0)) 25)) := (below_alloc w _).trans ((below_alloc _ _).mono (by simp))
  have HB1 := Lib.hid hb1
  have HE1 := Lib.hid (he.below hb1 he.lt)
  have HL := Lib.hid ((RowAt.new w .u8 32 25 s0).alloc (.cells (rowOf .u8 32 (fun _ => 0)) 25))
  have HR := Lib.hid (show RowAt ((w.alloc (.cells (rowOf .u8 32 s0) 25)).alloc (.cells (rowOf .u8 32 (fun _ => 0)) 25)) (w.heap.size + 1) .u8 32 25 (fun _ => 0) from by
    have := RowAt.new (w.alloc (.cells (rowOf .u8 32 s0) 25)) .u8 32 25 (fun _ => 0)
    rw [shSize_alloc] at this; exact this)
  obtain ⟨a, cap, rfl, hc, hm, hju0⟩ := hp
  clear hju0
  unfold maxLen at hm
  obtain ⟨ts, hts⟩ : ∃ ts, ts = turnsF i n := ⟨_, rfl⟩
  rw [← hts] at hl ⊢
  rw [hl] at hc
  have HLEN := Lib.hid hl
  obtain ⟨L, hL⟩ : ∃ L, L = ps.length := ⟨_, rfl⟩
  have HLL := Lib.hid hL
  have HLT := Lib.hid (show ts.length = L by rw [hL, hl])
  rw [← hL] at HP ⊢
  replace hts := Lib.hid hts
  have HLO := Lib.hid he.lt
  clear he hb1 hi hl hL
  go_enter Tryd.func21, Tryd.ntmps21
  go_upto_region 3 with (fail)
  rw [zeros32]
  generalize (w.alloc (.cells (rowOf .u8 32 s0) 25)).alloc (.cells (rowOf .u8 32 (fun _ => 0)) 25) = w1 at *
  go_upto_region 4 with (go_at_call 37; (with_reducible refine (turns_any i n _ HI.out.1 HI.out.2).mono ?_); rintro e w2 ⟨r, rfl, HO, HB2⟩; replace HO := Lib.hid HO; replace HB2 := Lib.hid HB2)
  have HLd := Lib.hid (HL.out.below HB2.out HL.out.lt)
  have HO' := Lib.hid (show w2.ownsRow w1.heap.size 4 1 r ts.length (ts.map Value.bool) from by rw [hts.out]; exact HO.out)
  have HT := Lib.hid (TurnsAt.of_own HO'.out w2.heap.size (Nat.le_refl _))
  have H63 : L ≤ 63 := by rw [← HLT.out, hts.out]; exact turns_len n i HI.out.2 HI.out.1
  have HB12 := Lib.hid (HB1.out.trans (HB2.out.mono HB1.out.size))
  have HE2 := Lib.hid (HE1.out.below HB2.out HE1.out.lt)
  have hb3 := below_alloc w2 (.cells (rowOf .u8 32 s0) 25)
  have M := Lib.hid (show FoldM w (w2.alloc (.cells (rowOf .u8 32 s0) 25)) w2.heap.size r ts s0 from
    ⟨(HR.out.below HB2.out HR.out.lt).below hb3 (HR.out.below HB2.out HR.out.lt).lt, RowAt.new w2 _ _ _ _, by have := (HR.out.below HB2.out HR.out.lt).lt; omega, HT.out.only (Only.of_below hb3), HB12.out.trans (hb3.mono HB12.out.size), HE2.out.below hb3 HE2.out.lt, HLO.out⟩)
  obtain ⟨ra, rcap, hr, hju⟩ := HT.out
  clear hju
  rw [HLT.out] at hr
  subst hr
  clear HO HO' HT HB12 HE2 hb3 HB1 HE1 HL HR HB2
  go_upto_region 7 with (first
    | (refine wpList_load_row rfl 25 (.tmp 4) rfl w.heap.size rfl 25 _ (0, 0) _ HLd.out Tryd.underlying25 rfl (by rw [rowOf_size]; kernel_rfl) ?_)
    | (refine wpList_store_row rfl 25 (.tmp 11) (.tmp 33) rfl w2.heap.size _ rfl rfl 25 _ (heap_alloc_new _ _) (by rw [rowOf_size]; kernel_rfl) (by rw [rowOf_size]; rfl) (rowOf_one _ _ _) ?_; rw [World.setRow_alloc_new]; simp only [Act.put]))
  generalize w2.alloc (.cells (rowOf .u8 32 s0) 25) = w3 at *
  obtain ⟨g, hg⟩ : ∃ g, g = w2.heap.size := ⟨_, rfl⟩
  rw [← hg] at M ⊢
  clear hg HLd w2
  go_wp2_with (fail)
  go_loopw [36] (fun x wr => ∃ k : Nat, k ≤ L ∧ x = .int .i64 (k : Int) ∧ Hid (FoldM w wr g (.slice ra L rcap) ts (foldT s0 ((ts.reverse.zip ps).take k)))) (fun x _ => L - (intOf x).toNat)
  case atStart => exact ⟨0, by omega, rfl, M⟩
  case round =>
    clear M
    obtain ⟨k, hk, rfl, M⟩ := hrel
    by_cases hlt : k < L
    · obtain ⟨t, ht⟩ : ∃ t, ts[L - 1 - k]? = some t := ⟨ts[L - 1 - k]'(by rw [HLT.out]; omega), List.getElem?_eq_getElem _⟩
      obtain ⟨p, hp⟩ : ∃ p, ps[k]? = some p := ⟨ps[k]'(by rw [← HLL.out]; omega), List.getElem?_eq_getElem _⟩
      have HTE := Lib.hid ht
      have HF := Lib.hid (fold_next s0 ts ps L k t p HLT.out HLL.out.symm hlt ht hp)
      have HPC := Lib.hid (path_cell HP.out k p hp M.out.below)
      obtain ⟨ab, ao, rfl, HPR⟩ := HPC.out
      replace HPR := Lib.hid HPR
      clear HPC ht hp
      have HTT := Lib.hid (show ∀ w', TurnsAt w' g (.slice ra L rcap) ts → ∃ tb, ra = some ⟨tb, 0, none⟩ ∧ w'.cell? ⟨tb, L - 1 - k, none⟩ = some (.bool t) from fun w' h => turn_cell h (L - 1 - k) t HTE.out)
      go_upto_region 10 with (first
        | (refine wpList_load_mid rfl 25 (.tmp 39) rfl ab (ao + k * 32) rfl _ _ HPR.out Tryd.underlying25 rfl (by rw [(rowOf_list _ _ _).2]; kernel_rfl) ?_; rw [Array.toArray_toList])
        | (refine wpList_store_row rfl 25 (.tmp 13) (.tmp 40) rfl wr.heap.size _ rfl rfl 25 _ (heap_alloc_new _ _) (by rw [rowOf_size]; kernel_rfl) (by rw [rowOf_size]; rfl) (rowOf_one _ _ _) ?_; rw [World.setRow_alloc_new]; simp only [Act.put]))
      have M5 := Lib.hid (M.out.calls (below_alloc wr (.cells (rowOf .u8 32 p) 25)))
      have RP := Lib.hid (RowAt.new wr .u8 32 25 p)
      have HNE := Lib.hid (show wr.heap.size ≠ g from by have := M.out.sum.lt; omega)
      generalize wr.alloc (.cells (rowOf .u8 32 p) 25) = w5 at *
      obtain ⟨g13, hg13⟩ : ∃ g13, g13 = wr.heap.size := ⟨_, rfl⟩
      rw [← hg13] at RP HNE ⊢
      clear hg13 HPR M
      obtain ⟨tb, rfl, htc⟩ := HTT.out _ M5.out.turns
      have n0 : ((L : Int) - 1 - (k : Int)).toNat = L - 1 - k := by omega
      cases t
      · go_wp2_with (first
          | (refine wpList_load_row rfl 25 (.tmp 11) rfl g rfl 25 _ (0, 0) _ M5.out.sum Tryd.underlying25 rfl (by rw [rowOf_size]; kernel_rfl) ?_)
          | (refine wpList_load_row rfl 25 (.tmp 13) rfl g13 rfl 25 _ (0, 0) _ RP.out Tryd.underlying25 rfl (by rw [rowOf_size]; kernel_rfl) ?_)
          | (go_at_call 24; (with_reducible refine (node_any (foldT s0 ((ts.reverse.zip ps).take k)) p _ M5.out.env).mono ?_); rintro e w6 ⟨rfl, HB6⟩; have M6 := Lib.hid (M5.out.calls HB6); clear HB6)
          | (refine wpList_store_row rfl 25 (.tmp 11) (.tmp 54) rfl g _ rfl rfl 25 _ M6.out.sum (by rw [rowOf_size]; kernel_rfl) (by rw [rowOf_size, rowOf_size]) (rowOf_one _ _ _) ?_))
        go_roundw
        case rel => exact ⟨k + 1, by omega, by go_num, Lib.hid (by rw [HF.out]; exact M6.out.only (Only.setRow w6 g _) (setRow_heap _ _ _ _ _ _ M6.out.sum))⟩
        case measure => simp [intOf]; omega
      · go_wp2_with (first
          | (refine wpList_load_row rfl 25 (.tmp 13) rfl g13 rfl 25 _ (0, 0) _ RP.out Tryd.underlying25 rfl (by rw [rowOf_size]; kernel_rfl) ?_)
          | (refine wpList_load_row rfl 25 (.tmp 11) rfl g rfl 25 _ (0, 0) _ M5.out.sum Tryd.underlying25 rfl (by rw [rowOf_size]; kernel_rfl) ?_)
          | (go_at_call 24; (with_reducible refine (node_any p (foldT s0 ((ts.reverse.zip ps).take k)) _ M5.out.env).mono ?_); rintro e w6 ⟨rfl, HB6⟩; have M6 := Lib.hid (M5.out.calls HB6); clear HB6)
          | (refine wpList_store_row rfl 25 (.tmp 11) (.tmp 51) rfl g _ rfl rfl 25 _ M6.out.sum (by rw [rowOf_size]; kernel_rfl) (by rw [rowOf_size, rowOf_size]) (rowOf_one _ _ _) ?_))
        go_roundw
        case rel => exact ⟨k + 1, by omega, by go_num, Lib.hid (by rw [HF.out]; exact M6.out.only (Only.setRow w6 g _) (setRow_heap _ _ _ _ _ _ M6.out.sum))⟩
        case measure => simp [intOf]; omega
    · replace M : Hid (FoldM w wr g (.slice ra L rcap) ts (foldT s0 (ts.reverse.zip ps))) := by
        have e : (ts.reverse.zip ps).take k = ts.reverse.zip ps := List.take_of_length_le (by rw [List.length_zip, List.length_reverse, HLT.out, ← HLL.out]; omega)
        rw [← e]; exact M
      go_wp2_with (first
        | (refine wpList_load_row rfl 25 (.tmp 11) rfl g rfl 25 _ (0, 0) _ M.out.sum Tryd.underlying25 rfl (by rw [rowOf_size]; kernel_rfl) ?_)
        | (refine wpList_store_row rfl 25 (.tmp 8) (.tmp 56) rfl (w.heap.size + 1) _ rfl rfl 25 _ M.out.res (by rw [rowOf_size]; kernel_rfl) (by rw [rowOf_size, rowOf_size]) (rowOf_one _ _ _) ?_))
      refine bodyPost_ret (results_cell_tmp_row rfl _ _ (w.heap.size + 1) 25 _ (0, 0) _ rfl (setRow_heap _ _ _ _ _ _ M.out.res) Tryd.underlying25 rfl (by rw [rowOf_size]; kernel_rfl)) rfl ?_
      exact ⟨rfl, below_setRow M.out.below (by omega) _⟩
end Go.Proofs.YtbppainejdphpaaDoor

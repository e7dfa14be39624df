/- PackStops: the walk. -/
import Derived.Test.YtikpcfcadddplaaDoorNum
import Derived.Test.YtikpcfcadddplaaDoorSure
import Derived.Test.YtikpcfcadddplaaDoorThing
namespace Go.Proofs.YtikpcfcadddplaaDoor
open Go.RowKit
set_option maxRecDepth 100000
/-- the number that uint64 makes of an int -/
def unat (i : Int) : Nat := (i % 18446744073709551616).toNat
theorem wrap_unat (i : Int) : IntKind.u64.wrap i = ((unat i : Nat) : Int) := by unfold unat; rw [IntKind.wrap_u64]; omega
/-- the four reads of a round -/
def r1 (s : RSt) (it : Int) : RSt := (uintS s (unat it)).2
def r2 (s : RSt) (it : Int) : RSt := (intS (r1 s it)).2
def r3 (s : RSt) (it : Int) : RSt := (boolS (r2 s it)).2
def r4 (s : RSt) (it kd : Int) : RSt := (partS (r3 s it) kd).2
/-- behind an error each read answers a zero value, and nothing turns -/
theorem uint_err (q x most : Nat) (ys : List Int) (w : World) (h : RS w q (ys, some x)) :
    Calls Tryd.prog 6 #[.pointer (some ⟨q, 0, none⟩), .int .u64 (most : Int)] w fun r w' => r = .returned (.int .u64 0) ∧ RS w' q (ys, some x) ∧ Only q w w' := uint_any q _ most w h
theorem int_err (q x : Nat) (ys : List Int) (w : World) (h : RS w q (ys, some x)) :
    Calls Tryd.prog 7 #[.pointer (some ⟨q, 0, none⟩)] w fun r w' => r = .returned (.int .i64 0) ∧ RS w' q (ys, some x) ∧ Only q w w' := by
  have h1 := int_any q _ w h
  rw [show intS (ys, some x) = (0, ys, some x) from by unfold intS; rw [uintS_err]; show (unzig 0, ys, some x) = _; rw [show unzig 0 = 0 from by decide]] at h1
  exact h1
theorem bool_err (q x : Nat) (ys : List Int) (w : World) (h : RS w q (ys, some x)) :
    Calls Tryd.prog 8 #[.pointer (some ⟨q, 0, none⟩)] w fun r w' => r = .returned (.bool false) ∧ RS w' q (ys, some x) ∧ Only q w w' := bool_any q _ w h
theorem text_err (q x : Nat) (ys : List Int) (most : Int) (w : World) (h : RS w q (ys, some x)) (h0 : -9223372036854775808 ≤ most) (h1 : most ≤ 9223372036854775807) :
    Calls Tryd.prog 9 #[.pointer (some ⟨q, 0, none⟩), .int .i64 most] w fun r w' => r = .returned (.string { data := #[] }) ∧ RS w' q (ys, some x) ∧ Only q w w' := rtext_any q _ most w h h0 h1
theorem num_x (x : Nat) (w : World) (hg : ErrType w) : Calls Tryd.prog 10 #[.iface 55 (.int .i64 (x : Int))] w fun r w' => r = .returned (.int .i64 (x : Int)) ∧ Below w.heap.size w w' := num_any (some x) w hg
theorem err_x (q x : Nat) (ys : List Int) (w : World) (h : RS w q (ys, some x)) : Calls Tryd.prog 11 #[.pointer (some ⟨q, 0, none⟩)] w fun r w' => r = .returned (.iface 55 (.int .i64 (x : Int))) ∧ w' = w := by
  obtain ⟨y, hy⟩ := h
  exact err_any q y ys (some x) w hy
theorem err_rs (q : Nat) (s : RSt) (w : World) (h : RS w q s) : Calls Tryd.prog 11 #[.pointer (some ⟨q, 0, none⟩)] w fun r w' => r = .returned (errV s.2) ∧ w' = w := by
  obtain ⟨y, hy⟩ := h
  exact err_any q y s.1 s.2 w hy
theorem wpList_store_new {P : Program} {wr : World} {old : Array Value} {t : TypeId} {ops : Array Oper} {rest : List Oper} {o : Oper} {a : Act} {Q : Exit → Act → World → Prop} (hgd : o.guard = none) (ty : TypeId) (x y : Operand) (ho : o.op = .store ty x y)
    (cells : Array Value) (hx : a.eval x = .pointer (some ⟨wr.heap.size, 0, none⟩)) (hy : a.eval y = .agg cells) (hi : (P.info? ty).map (·.size) = some cells.size) (hold : old.size = cells.size) (h1 : cells.all (·.oneCell') = true)
    (h : ∀ w1, w1.heap[wr.heap.size]? = some (.cells cells t (0, 0)) → Below wr.heap.size wr w1 → wpList P ops Q rest (a.put o.dst undef) w1) : wpList P ops Q (o :: rest) a (wr.alloc (.cells old t)) :=
  wpList_store_row hgd ty x y ho wr.heap.size cells hx hy t old (heap_alloc_new wr _) hi hold h1 (h _ (setRow_heap _ _ _ _ _ _ (heap_alloc_new wr _)) (below_setRow (below_alloc wr _) (Nat.le_refl _) _))
theorem TH.size (t : TH) : t.cells.toArray.size = 35 := by rw [List.size_toArray, TH.cells_length]
theorem cells_one (t : TH) {a : Option Addr} {n c : Nat} (h : t.bv = .slice a n c) : t.cells.toArray.all (·.oneCell') = true := by
  refine all_oneCell_toArray fun v hv => ?_
  unfold TH.cells at hv
  rcases List.mem_append.1 hv with h1 | h1
  · simp only [List.mem_cons, List.not_mem_nil, or_false] at h1
    rcases h1 with rfl | rfl | rfl
    · rfl
    · rfl
    · rw [h]; rfl
  · have := Array.all_eq_true_iff_forall_mem.1 (rowOf_one .u8 32 t.hash)
    exact this v (by simpa using h1)
set_option maxHeartbeats 4000000 in
theorem stops_any (v : Value) (xs : List Int) (y : Value) (ts : List TH) (W : World) (hv : BytesIn W v xs) (hok : bytesOk xs) (hxl : xs.length ≤ 140737488355328) (hx : ThingsIn W y ts) (hts : ∀ t ∈ ts, THok t) (he : ErrType W) :
    Calls Tryd.prog 3 #[v, y] W fun e W' => e = .returned (.bool true) ∧ Below W.heap.size W W' := by
  obtain ⟨a, cap, rfl, hcap, hmax, hx⟩ := hx
  have HS := Lib.hid hts
  have HX := Lib.hid hx
  have hlen : ts.length ≤ 9223372036854775807 := by unfold maxLen at hmax; omega
  obtain ⟨B, hB⟩ : ∃ B, B = W.heap.size := ⟨_, rfl⟩
  have HRD := Lib.hid (read_any v xs W hv hok hxl)
  rw [← hB]
  have hB0 : 0 < B := by rw [hB]; exact World.block_lt_of_cell? W _ he
  have HET := Lib.hid (fun (w : World) (hb : Below B W w) => (show ErrType w from (hb.cell (p := ⟨0, 0, none⟩) hB0).trans he))
  replace hB := Lib.hid hB
  clear hx hts hmax hcap hv hok hxl he
  go_enter Tryd.func3, Tryd.ntmps3
  go_wp2_with (go_at_call 5; (with_reducible refine HRD.out.mono ?_); rintro e w1 ⟨q, y1, rfl, hq, hr, hb⟩; have hqB := Lib.hid (show B ≤ q by rw [hB.out]; exact hq); have HA := Lib.hid (show Below B W w1 by rw [hB.out]; exact hb); have HR := Lib.hid (show RS w1 q (xs, none) from ⟨y1, hr⟩); clear hq hr hb)
  go_loopw [6, 7] (fun f i wr => ∃ (j : Nat) (s : RSt) (e : Option Nat), j ≤ ts.length ∧ f = errV e ∧ i = .int .i64 j ∧ Hid (Below B W wr ∧ RS wr q s ∧ e = s.2)) (fun _ i _ => ts.length - (intOf i).toNat)
  case atStart => exact ⟨0, _, none, Nat.zero_le _, rfl, rfl, HA.out, HR.out, rfl⟩
  case round =>
    clear HA HR
    obtain ⟨j, s, e, hj, rfl, rfl, H⟩ := hrel
    have HR := Lib.hid H.out.2.1
    have HA := Lib.hid H.out.1
    have HSE := Lib.hid H.out.2.2
    clear H
    by_cases hlt : j < ts.length ∧ j < 40
    · have hkl := hlt.1
      obtain ⟨t, ht⟩ : ∃ t, ts[j]? = some t := ⟨_, List.getElem?_eq_getElem hkl⟩
      obtain ⟨b, off, rfl, hbW, hall⟩ := HX.out.resolve_left (by rintro rfl; simp at hkl)
      have hTA := hall j t ht
      have htok := HS.out t (List.mem_of_getElem? ht)
      obtain ⟨ba, bc, hbv, _⟩ := (hall j t ht).bytes
      obtain ⟨kd, it, bv, bs, hf⟩ := t
      simp only at hbv
      subst hbv
      have hki : (j : Int) < (ts.length : Int) := by omega
      have hk40 : (j : Int) < 40 := by omega
      have hwr := wrap_unat it
      have HRG := Lib.hid (fun (w : World) (hb : Below B W w) => ((fun i v hv => (hb.cell (p := ⟨b, off + j * 35 + i, none⟩) (by rw [hB.out]; exact hbW)).trans (hTA.cells i v hv)) : w.rangeAt b (off + j * 35) (TH.cells ⟨kd, it, .slice ba bs.length bc, bs, hf⟩)))
      replace htok := Lib.hid htok
      clear hall hTA ht hlt
      go_upto_region 9 with (first
        | (refine wpList_load_mid rfl 31 (.tmp 29) rfl b (off + j * 35) rfl _ _ (HRG.out _ HA.out) Tryd.underlying31 rfl (by rw [TH.cells_length]; kernel_rfl) ?_)
        | (refine wpList_store_new rfl 31 (.tmp 8) (.tmp 30) rfl _ rfl rfl (by rw [TH.size]; kernel_rfl) ((rfl : (35 : Nat) = 35).trans (TH.size _).symm) (cells_one _ rfl) ?_; intro w1 hg1 hb1; have HG1 := Lib.hid hg1; have HB1 := Lib.hid hb1; clear hg1 hb1))
      have hqg : q < wr.heap.size := by obtain ⟨y, hy⟩ := HR.out; exact hy.lt
      have HA1 := Lib.hid (HA.out.trans (HB1.out.mono (by rw [hB.out]; exact HA.out.size)))
      have HR1 := Lib.hid (show RS w1 q s by obtain ⟨y, hy⟩ := HR.out; exact ⟨y, hy.below HB1.out⟩)
      obtain ⟨g, hg⟩ : ∃ g, g = wr.heap.size := ⟨_, rfl⟩
      rw [← hg] at hqg HG1 ⊢
      have HNE := Lib.hid (show g ≠ q by omega)
      clear hg hqg HR HA HB1 HRG
      have hS9 := Lib.hid (fun (w : World) (hg : w.heap[g]? = some (.cells (TH.cells ⟨kd, it, .slice ba bs.length bc, bs, hf⟩).toArray 31 (0, 0))) => (⟨(by rw [cell_of_row w g 0 _ _ _ hg]; rfl), (by rw [cell_of_row w g 1 _ _ _ hg]; rfl)⟩ : w.cell? ⟨g, 0, none⟩ = some (.int .i64 kd) ∧ w.cell? ⟨g, 1, none⟩ = some (.int .i64 it)))
      have HR : Hid (RS w1.drew q s) := Lib.hid (by obtain ⟨y, hy⟩ := HR1.out; exact ⟨y, hy.keep rfl fun _ _ _ => rfl⟩)
      have HA : Hid (Below B W w1.drew) := Lib.hid HA1.out.drew
      have HG : Hid (w1.drew.heap[g]? = some (.cells (TH.cells ⟨kd, it, .slice ba bs.length bc, bs, hf⟩).toArray 31 (0, 0))) := HG1
      have hS0 := hS9.out _ HG.out
      clear HR1 HA1 HG1
      obtain ⟨ys, es⟩ := s
      cases es with
      | none =>
        (go_region_held3 (fun w => w.cell? ⟨g, 0, none⟩ = some (.int .i64 kd) ∧ w.cell? ⟨g, 1, none⟩ = some (.int .i64 it))
          (exact hS0)
          (first
            | (go_at_call 6; (with_reducible refine (uint_any q _ (unat it) _ HR.out).mono ?_); rintro e w2 ⟨rfl, hr, ho⟩; replace HR := Lib.hid hr; replace HA := Lib.hid (HA.out.trans (ho.below hqB.out (by rw [hB.out]; exact HA.out.size))); replace HG := Lib.hid ((ho.block g (Array.getElem?_eq_some_iff.1 HG.out).1 HNE.out).trans HG.out); have hS0 := hS9.out _ HG.out; clear hr ho)
            | (go_at_call 7; (with_reducible refine (int_any q _ _ HR.out).mono ?_); rintro e w2 ⟨rfl, hr, ho⟩; replace HR := Lib.hid hr; replace HA := Lib.hid (HA.out.trans (ho.below hqB.out (by rw [hB.out]; exact HA.out.size))); replace HG := Lib.hid ((ho.block g (Array.getElem?_eq_some_iff.1 HG.out).1 HNE.out).trans HG.out); have hS0 := hS9.out _ HG.out; clear hr ho)
            | (go_at_call 8; (with_reducible refine (bool_any q _ _ HR.out).mono ?_); rintro e w2 ⟨rfl, hr, ho⟩; replace HR := Lib.hid hr; replace HA := Lib.hid (HA.out.trans (ho.below hqB.out (by rw [hB.out]; exact HA.out.size))); replace HG := Lib.hid ((ho.block g (Array.getElem?_eq_some_iff.1 HG.out).1 HNE.out).trans HG.out); have hS0 := hS9.out _ HG.out; clear hr ho)
            | (go_at_call 9; (with_reducible refine (rtext_any q _ kd _ HR.out htok.out.kind.1 htok.out.kind.2).mono ?_); rintro e w2 ⟨rfl, hr, ho⟩; replace HR := Lib.hid hr; replace HA := Lib.hid (HA.out.trans (ho.below hqB.out (by rw [hB.out]; exact HA.out.size))); replace HG := Lib.hid ((ho.block g (Array.getElem?_eq_some_iff.1 HG.out).1 HNE.out).trans HG.out); have hS0 := hS9.out _ HG.out; clear hr ho)))
        rw [HSE.out]
        simp only [errV]
        go_wp2_with (first
          | (go_at_call 11; (with_reducible refine (err_rs q _ _ HR.out).mono ?_); rintro e w2 ⟨rfl, rfl⟩))
        go_roundw
        case rel => exact ⟨j + 1, _, _, by omega, rfl, by simp, HA.out, HR.out, rfl⟩
        case measure => simp [intOf]; omega
      | some x =>
        (go_region_held3 (fun w => w.cell? ⟨g, 0, none⟩ = some (.int .i64 kd) ∧ w.cell? ⟨g, 1, none⟩ = some (.int .i64 it))
          (exact hS0)
          (first
            | (go_at_call 6; (with_reducible refine (uint_err q x (unat it) _ _ HR.out).mono ?_); rintro e w2 ⟨rfl, hr, ho⟩; replace HR := Lib.hid hr; replace HA := Lib.hid (HA.out.trans (ho.below hqB.out (by rw [hB.out]; exact HA.out.size))); replace HG := Lib.hid ((ho.block g (Array.getElem?_eq_some_iff.1 HG.out).1 HNE.out).trans HG.out); have hS0 := hS9.out _ HG.out; clear hr ho)
            | (go_at_call 7; (with_reducible refine (int_err q x _ _ HR.out).mono ?_); rintro e w2 ⟨rfl, hr, ho⟩; replace HR := Lib.hid hr; replace HA := Lib.hid (HA.out.trans (ho.below hqB.out (by rw [hB.out]; exact HA.out.size))); replace HG := Lib.hid ((ho.block g (Array.getElem?_eq_some_iff.1 HG.out).1 HNE.out).trans HG.out); have hS0 := hS9.out _ HG.out; clear hr ho)
            | (go_at_call 8; (with_reducible refine (bool_err q x _ _ HR.out).mono ?_); rintro e w2 ⟨rfl, hr, ho⟩; replace HR := Lib.hid hr; replace HA := Lib.hid (HA.out.trans (ho.below hqB.out (by rw [hB.out]; exact HA.out.size))); replace HG := Lib.hid ((ho.block g (Array.getElem?_eq_some_iff.1 HG.out).1 HNE.out).trans HG.out); have hS0 := hS9.out _ HG.out; clear hr ho)
            | (go_at_call 9; (with_reducible refine (text_err q x _ kd _ HR.out htok.out.kind.1 htok.out.kind.2).mono ?_); rintro e w2 ⟨rfl, hr, ho⟩; replace HR := Lib.hid hr; replace HA := Lib.hid (HA.out.trans (ho.below hqB.out (by rw [hB.out]; exact HA.out.size))); replace HG := Lib.hid ((ho.block g (Array.getElem?_eq_some_iff.1 HG.out).1 HNE.out).trans HG.out); have hS0 := hS9.out _ HG.out; clear hr ho)))
        rw [HSE.out]
        simp only [errV]
        clear hS0 HG
        go_wp2_with (first
          | (go_at_call 11; (with_reducible refine (err_x q x _ _ HR.out).mono ?_); rintro e w3 ⟨rfl, rfl⟩)
          | (go_at_call 10; (with_reducible refine (num_x x _ (HET.out _ HA.out)).mono ?_); rintro e w3 ⟨rfl, hb⟩; obtain ⟨y, hy⟩ := HR.out; replace HR := Lib.hid (show RS w3 q (ys, some x) from ⟨y, hy.below hb⟩); replace HA := Lib.hid (HA.out.trans (hb.mono (by rw [hB.out]; exact HA.out.size))); clear hb hy))
        go_roundw
        case rel => exact ⟨j + 1, _, _, by omega, rfl, by simp, HA.out, HR.out, rfl⟩
        case measure => simp [intOf]; omega
    · have hS : ∀ w9 : World, Below wr.heap.size wr w9 → Below B W w9 := fun _ hb => HA.out.trans (hb.mono (by rw [hB.out]; exact HA.out.size))
      replace hS := Lib.hid hS
      by_cases h1 : j < ts.length
      · have hn1 : (j : Int) < (ts.length : Int) := by omega
        have hn2 : ¬ (j : Int) < 40 := by omega
        go_wp2_with (go_at_call 12; (with_reducible refine (sure_any _).mono ?_); rintro e w9 ⟨rfl, hb⟩; replace hb := Lib.hid hb)
        go_ret
        exact ⟨rfl, hS.out _ hb.out⟩
      · have hn1 : ¬ (j : Int) < (ts.length : Int) := by omega
        go_wp2_with (go_at_call 12; (with_reducible refine (sure_any _).mono ?_); rintro e w9 ⟨rfl, hb⟩; replace hb := Lib.hid hb)
        go_ret
        exact ⟨rfl, hS.out _ hb.out⟩
#print axioms stops_any
end Go.Proofs.YtikpcfcadddplaaDoor

/- Part 38 of the proof. -/
import Derived.Test.YtejglhlodfhgkaaGreatDoorXv31
import Derived.Test.YtejglhlodfhgkaaGreatDoorXv32
import Derived.Test.YtejglhlodfhgkaaGreatDoorXv35
import Derived.Test.YtejglhlodfhgkaaGreatDoorXv36
import Derived.Test.YtejglhlodfhgkaaGreatDoorXv37
namespace Go.Proofs.YtejglhlodfhgkaaGreatDoor
set_option linter.unusedVariables false
set_option linter.unusedSimpArgs false
open Go.RowKit
set_option maxRecDepth 100000
theorem hashS_len (s : RSt) : (hashS s).2.1.length ≤ s.1.length := by
  obtain ⟨ys, e⟩ := s
  cases e with
  | some x => exact Nat.le_refl _
  | none =>
    unfold hashS
    simp only
    split
    · exact Nat.le_refl _
    · simp
theorem hashesS_len (s : RSt) : ∀ k, (hashesS s k).2.1.length ≤ s.1.length
  | 0 => Nat.le_refl _
  | k + 1 => Nat.le_trans (hashS_len _) (hashesS_len s k)
theorem sgz6 : sgC 0 (.slice none 0 0) (.slice none 0 0) = #[.int .i64 0, .slice none 0 0, .slice none 0 0] := rfl
section
variable {w w' : World} {q B leaf leaf' i : Nat} {v v2 vo vo' x old : Value} {once once' : List Int} {s s2 : RSt} {ps : List (Nat → Int)}
theorem PaM.put (m : PaM w w' q B leaf v vo (.slice none 0 0) once s []) (hi : w'.cell? ⟨w.heap.size + 1, i, none⟩ = some old) (hno : ∀ n, old ≠ .int .u8 n)
    (hset : (sgC leaf vo (.slice none 0 0)).setIfInBounds i x = sgC leaf' vo' (.slice none 0 0)) (h2 : BytesIn w' vo' once') : PaM w (w'.setCell ⟨w.heap.size + 1, i, none⟩ x) q w'.heap.size leaf' v vo' (.slice none 0 0) once' s [] := by
  have hq := m.hq
  have hB := m.hB
  have hsz := m.size
  have hO := Only.setCell w' ⟨w.heap.size + 1, i, none⟩ x
  have hb : ∀ j, j < w'.heap.size → j ≠ w.heap.size + 1 → (w'.setCell ⟨w.heap.size + 1, i, none⟩ x).heap[j]? = w'.heap[j]? := fun j hj hn => hO.block j hj (show j ≠ w.heap.size + 1 from hn)
  exact ⟨m.below.trans (hO.below (show w.heap.size ≤ w.heap.size + 1 by omega) m.below.size), (hb _ (by omega) (by omega)).trans m.res, by rw [heap_setCell_same w' _ i _ _ _ m.sig, hset], (hb _ (by omega) (by omega)).trans m.rd,
    bytes_setCellR m.vin hi hno, fun hn k hk => bytes_own_lt m.vin hn k hk, bytes_setCellR h2 hi hno, fun hn k hk => bytes_own_lt h2 hn k hk, World.ownsRow_nil _ _ _ _, hq, by omega, hO.size⟩
theorem PaM.rebase (m : PaM w w' q B leaf v vo (.slice none 0 0) once s []) : PaM w w' q w'.heap.size leaf v vo (.slice none 0 0) once s [] :=
  ⟨m.below, m.res, m.sig, m.rd, m.vin, fun hn k hk => bytes_own_lt m.vin hn k hk, m.oin, fun hn k hk => bytes_own_lt m.oin hn k hk, World.ownsRow_nil _ _ _ _, m.hq, Nat.lt_of_lt_of_le m.hB m.size, Nat.le_refl _⟩
theorem PaM.off {w2 : World} {g : Nat} {vp : Value} (m : PaM w w' q B leaf v vo vp once s ps) (h : Only g w' w2) (hg : B ≤ g) (hv : vp.ownBlock ≠ some g) : PaM w w2 q B leaf v vo vp once s ps := by
  have hq := m.hq
  have hB := m.hB
  exact ⟨m.below.trans (h.below (by omega) m.below.size), (h.block _ (heap_lt' m.res) (by omega)).trans m.res, (h.block _ (heap_lt' m.sig) (by omega)).trans m.sig, (h.block _ (heap_lt' m.rd) (by omega)).trans m.rd,
    m.vin.only0 h fun hn k hk => (by have := m.vown hn k hk; omega), m.vown, m.oin.only0 h fun hn k hk => (by have := m.oown hn k hk; omega), m.oown, m.path.kept h.grown (.inr hv), hq, hB, Nat.le_trans m.size h.size⟩
theorem PaM.own_off {vp : Value} (m : PaM w w' q B leaf v vo vp once s ps) : vp.ownBlock ≠ some w'.heap.size := fun e => by have := (m.path.lt _ e).2; omega
end
set_option maxHeartbeats 4000000 in
theorem rparts_any (v : Value) (xs : List Int) (w : World) (hx : BytesIn w v xs) (hb : bytesOk xs) (hl : xs.length ≤ 140737488351232) :
    Calls Tryz.prog 152 #[v] w fun e w' => ∃ vo vp, e = .returned (.tuple #[.agg (sgC (decS xs).1.leaf vo vp), .int .i64 (numE (decS xs).2)]) ∧ BytesIn w' vo (decS xs).1.once ∧ HashesIn w' vp (decS xs).1.path ∧ Below w.heap.size w w' := by
  have HX := Lib.hid hx
  obtain ⟨av, cv, rfl, -⟩ := id hx
  obtain ⟨lf, y1, e1, h1⟩ : ∃ a y e, uintS (xs, none) 1023 = (a, y, e) := ⟨_, _, _, rfl⟩
  obtain ⟨on, y2, e2, h2⟩ : ∃ on y e, partS (y1, e1) 4096 = (on, y, e) := ⟨_, _, _, rfl⟩
  obtain ⟨c, y3, e3, h3⟩ : ∃ c y e, uintS (y2, e2) 10 = (c, y, e) := ⟨_, _, _, rfl⟩
  have ha : lf ≤ 1023 := by have := uintS_le (xs, none) 1023; rw [h1] at this; exact this
  have hc : c ≤ 10 := by have := uintS_le (y2, e2) 10; rw [h3] at this; exact this
  have f1 := uintS_no0 (xs, none) 1023 (by simp)
  have g1 := uintS_ok (xs, none) 1023 hb
  rw [h1] at f1 g1
  have f2 := partS_fine (y1, e1) 4096 f1 g1.1
  rw [show ((4096 : Nat) : Int) = 4096 from rfl, h2] at f2
  have f3 := uintS_no0 (y2, e2) 10 f2.1
  have g3 := uintS_ok (y2, e2) 10 f2.2.1
  rw [h3] at f3 g3
  simp only at f1 g1 f2 f3 g3
  have hl1 : y1.length ≤ 140737488351232 := Nat.le_trans g1.2 hl
  have hl2 : y2.length ≤ 140737488351232 := Nat.le_trans f2.2.2 hl1
  have hl3 : y3.length ≤ 140737488351232 := Nat.le_trans g3.2 hl2
  have U1 := Lib.hid (show ∀ w, BytesIn w (.slice av xs.length cv) xs → Calls Tryz.prog 140 #[.agg #[.slice av xs.length cv, .int .i64 0], .int .u64 1023] w fun r w' => ∃ v', r = .returned (.tuple #[.agg (rdC v' (numE e1)), .int .u64 (lf : Int)]) ∧ BytesIn w' v' y1 ∧ Below w.heap.size w w' from fun w h => by
    have := ruint2_any _ xs none (by simp) 1023 (by decide) w h hb (by omega)
    rw [h1] at this
    exact this)
  have U2 := Lib.hid (show ∀ w v, BytesIn w v y1 → Calls Tryz.prog 69 #[.agg (rdC v (numE e1)), .int .i64 4096] w fun r w' => ∃ v' vb, r = .returned (.tuple #[.agg (rdC v' (numE e2)), vb]) ∧ BytesIn w' v' y2 ∧ BytesIn w' vb on ∧ Below w.heap.size w w' from fun w v h => by
    have := rrbytes_any v y1 e1 f1 4096 (by decide) w h g1.1 hl1
    rw [show ((4096 : Nat) : Int) = 4096 from rfl, h2] at this
    exact this)
  have U3 := Lib.hid (show ∀ w v, BytesIn w v y2 → Calls Tryz.prog 140 #[.agg (rdC v (numE e2)), .int .u64 10] w fun r w' => ∃ v', r = .returned (.tuple #[.agg (rdC v' (numE e3)), .int .u64 (c : Int)]) ∧ BytesIn w' v' y3 ∧ Below w.heap.size w w' from fun w v h => by
    have := ruint2_any v y2 e2 f2.1 10 (by decide) w h f2.2.1 (by omega)
    rw [h3] at this
    exact this)
  have HD := Lib.hid (show decS xs = if doneE (hashesS (y3, e3) c).2 = none then (⟨lf, on, (hashesS (y3, e3) c).1⟩, none) else (zSg, some 3) by
    unfold decS sD sC sB sA; rw [h1]; simp only; rw [h2]; simp only; rw [h3])
  have HF3 := Lib.hid f3
  have HL3 := Lib.hid hl3
  clear hx hb hl h1 h2 h3 f1 g1 f2 f3 g3 hl1 hl2 hl3
  have HB := Lib.hid ((below_alloc w (.cells (sgC 0 (.slice none 0 0) (.slice none 0 0)) 232)).trans ((below_alloc (w.alloc (.cells (sgC 0 (.slice none 0 0) (.slice none 0 0)) 232)) (.cells (sgC 0 (.slice none 0 0) (.slice none 0 0)) 232)).mono (below_alloc w (.cells (sgC 0 (.slice none 0 0) (.slice none 0 0)) 232)).size))
  have HRES := Lib.hid (((below_alloc (w.alloc (.cells (sgC 0 (.slice none 0 0) (.slice none 0 0)) 232)) (.cells (sgC 0 (.slice none 0 0) (.slice none 0 0)) 232)).block _ (heap_lt' (heap_alloc_new w (.cells (sgC 0 (.slice none 0 0) (.slice none 0 0)) 232)))).trans (heap_alloc_new w (.cells (sgC 0 (.slice none 0 0) (.slice none 0 0)) 232)))
  have HSIG := Lib.hid (heap_alloc_new (w.alloc (.cells (sgC 0 (.slice none 0 0) (.slice none 0 0)) 232)) (.cells (sgC 0 (.slice none 0 0) (.slice none 0 0)) 232))
  rw [show (w.alloc (.cells (sgC 0 (.slice none 0 0) (.slice none 0 0)) 232)).heap.size = w.heap.size + 1 by simp] at HSIG
  go_enter Tryz.func152, Tryz.ntmps152
  go_upto_region 1 with (fail)
  go_upto_region 2 with (refine wpList_store_row rfl 232 (.tmp 4) (.tmp 10) rfl (w.heap.size + 1) (sgC 0 (.slice none 0 0) (.slice none 0 0)) rfl rfl 232 _ HSIG.out (by kernel_rfl) (by rfl) (sgz_one 0) ?_)
  rw [sgz6] at HB HRES HSIG
  replace HRES := Lib.hid ((setRow_other _ (w.heap.size + 1) w.heap.size (sgC 0 (.slice none 0 0) (.slice none 0 0)) (by omega)).trans HRES.out)
  replace HB := Lib.hid (below_setRow (g := w.heap.size + 1) HB.out (by omega) (sgC 0 (.slice none 0 0) (.slice none 0 0)))
  replace HSIG := Lib.hid (setRow_heap _ _ _ (sgC 0 (.slice none 0 0) (.slice none 0 0)) _ _ HSIG.out)
  generalize ((w.alloc (.cells #[.int .i64 0, .slice none 0 0, .slice none 0 0] 232)).alloc (.cells #[.int .i64 0, .slice none 0 0, .slice none 0 0] 232)).setRow (w.heap.size + 1) (sgC 0 (.slice none 0 0) (.slice none 0 0)) = w1 at *
  rw [← sgz6] at HRES
  go_upto_region 3 with (first
    | (go_at_call 140; (with_reducible refine (U1.out _ (HX.out.below HB.out)).mono ?_); rintro e w2 ⟨v1, rfl, hy1, hb2⟩; obtain ⟨a1, c1, rfl, -⟩ := id hy1; have HY1 := Lib.hid hy1; replace HRES := Lib.hid ((hb2.block _ (heap_lt' HRES.out)).trans HRES.out); replace HSIG := Lib.hid ((hb2.block _ (heap_lt' HSIG.out)).trans HSIG.out); replace HB := Lib.hid (HB.out.trans (hb2.mono HB.out.size)); clear hy1 hb2)
    | (refine wpList_store_row rfl 129 (.tmp 5) (.tmp 15) rfl w2.heap.size (rdC (.slice a1 y1.length c1) (numE e1)) rfl rfl 129 _ (heap_alloc_new _ _) (by kernel_rfl) (by rfl) (rd_one _ _ _ _) ?_; rw [World.setRow_alloc_new]))
  obtain ⟨q, hq⟩ : ∃ q, q = w2.heap.size := ⟨_, rfl⟩
  have M := Lib.hid (show PaM w (w2.alloc (.cells (rdC (.slice a1 y1.length c1) (numE e1)) 129)) q (w2.alloc (.cells (rdC (.slice a1 y1.length c1) (numE e1)) 129)).heap.size 0 (.slice a1 y1.length c1) (.slice none 0 0) (.slice none 0 0) [] (y1, e1) [] from by
    have hbA := below_alloc w2 (.cells (rdC (.slice a1 y1.length c1) (numE e1)) 129)
    have hy := HY1.out.below hbA
    refine ⟨HB.out.trans (hbA.mono HB.out.size), (hbA.block _ (heap_lt' HRES.out)).trans HRES.out, (hbA.block _ (heap_lt' HSIG.out)).trans HSIG.out, by rw [hq]; exact heap_alloc_new _ _, hy, fun hn k hk => bytes_own_lt hy hn k hk, ⟨_, _, rfl, Nat.le_refl _, by unfold maxLen; decide, .inl rfl⟩, fun h => absurd rfl h, World.ownsRow_nil _ _ _ _, by rw [hq]; exact heap_lt' HSIG.out, by rw [hq]; simp, Nat.le_refl _⟩)
  rw [← hq]
  generalize w2.alloc (.cells (rdC (.slice a1 y1.length c1) (numE e1)) 129) = w3 at *
  replace hq := Lib.hid hq
  clear HB HRES HSIG HY1
  have RD := Lib.hid (show w3.heap[q]? = some (.cells (rdC (.slice a1 y1.length c1) (numE e1)) 129 (0, 0)) from M.out.rd)
  go_upto_region 4 with (first
    | (refine wpList_load_row rfl 129 (.tmp 5) rfl q rfl 129 _ (0, 0) _ RD.out Tryz.underlying129 rfl (by kernel_rfl) ?_)
    | (go_at_call 69; (with_reducible refine (U2.out _ _ M.out.vin).mono ?_); rintro e w4 ⟨v2, vo, rfl, hy2, hxo, hb4⟩; obtain ⟨a2, c2, rfl, -⟩ := id hy2; obtain ⟨ao, co, rfl, -⟩ := id hxo; have HY2 := Lib.hid hy2; have HXO := Lib.hid hxo; replace M := Lib.hid (M.out.call hb4); clear hy2 hxo hb4)
    | (refine wpList_store_row rfl 129 (.tmp 5) (.tmp 20) rfl q (rdC (.slice a2 y2.length c2) (numE e2)) rfl rfl 129 _ M.out.rd (by kernel_rfl) (by rfl) (rd_one _ _ _ _) ?_; replace HXO := Lib.hid (bytes_rowG HXO.out M.out.rd (rdC_no _ _ _ _) (rdC (.slice a2 y2.length c2) (numE e2))); replace M := Lib.hid (show PaM w (w4.setRow q (rdC (.slice a2 y2.length c2) (numE e2))) q _ 0 (.slice a2 y2.length c2) (.slice none 0 0) (.slice none 0 0) [] (y2, e2) [] from M.out.call (Below.refl _ _) |>.rebase.read (s2 := (y2, e2)) rfl HY2.out fun hn k hk => bytes_own_lt HY2.out hn k hk); generalize w4.setRow q (rdC (.slice a2 y2.length c2) (numE e2)) = w5 at *; obtain ⟨cc0, cc1, cc2, ff⟩ := sig6_cells M.out.sig; have ff1 := ff 1; clear ff))
  replace M := Lib.hid (M.out.put cc1 (by simp) (sgC_set1 _ _ (.slice ao on.length co) _) HXO.out)
  clear cc0 cc1 cc2 ff1 HXO HY2 RD
  generalize w5.setCell ⟨w.heap.size + 1, 1, none⟩ (.slice ao on.length co) = w6 at *
  have RD := Lib.hid (show w6.heap[q]? = some (.cells (rdC (.slice a2 y2.length c2) (numE e2)) 129 (0, 0)) from M.out.rd)
  go_upto_region 5 with (first
    | (refine wpList_load_row rfl 129 (.tmp 5) rfl q rfl 129 _ (0, 0) _ RD.out Tryz.underlying129 rfl (by kernel_rfl) ?_)
    | (go_at_call 140; (with_reducible refine (U3.out _ _ M.out.vin).mono ?_); rintro e w7 ⟨v3, rfl, hy3, hb7⟩; obtain ⟨a3, c3, rfl, -⟩ := id hy3; have HY3 := Lib.hid hy3; replace M := Lib.hid (M.out.call hb7); clear hy3 hb7)
    | (refine wpList_store_row rfl 129 (.tmp 5) (.tmp 26) rfl q (rdC (.slice a3 y3.length c3) (numE e3)) rfl rfl 129 _ M.out.rd (by kernel_rfl) (by rfl) (rd_one _ _ _ _) ?_; replace M := Lib.hid (M.out.rebase.read (s2 := (y3, e3)) rfl HY3.out fun hn k hk => bytes_own_lt HY3.out hn k hk); generalize w7.setRow q (rdC (.slice a3 y3.length c3) (numE e3)) = w8 at *; obtain ⟨cc0, cc1, cc2, ff⟩ := sig6_cells M.out.sig; have ff1 := ff 0; clear ff cc1 cc2))
  go_upto_region 6 with (fail)
  replace M := Lib.hid (M.out.put (leaf' := lf) cc0 (by simp) (show (sgC 0 (.slice ao on.length co) (.slice none 0 0)).setIfInBounds 0 (.int .i64 (lf : Int)) = sgC lf (.slice ao on.length co) (.slice none 0 0) from rfl) M.out.oin)
  clear cc0 ff1 RD HY3
  generalize w8.setCell ⟨w.heap.size + 1, 0, none⟩ (.int .i64 (lf : Int)) = w9 at *
  obtain ⟨B, hB⟩ : ∃ B, B = w8.heap.size := ⟨_, rfl⟩
  rw [← hB] at M
  replace hB := Lib.hid hB
  go_wp2_with (fail)
  have HVO := Lib.hid (show ∃ a n c, Value.slice ao on.length co = .slice a n c from ⟨_, _, _, rfl⟩)
  generalize hvo : Value.slice ao on.length co = vo at *
  go_loopw [8] (fun i wr => ∃ k : Nat, k ≤ c ∧ i = .int .u64 (k : Int) ∧ Hid (∃ v vp, PaM w wr q B lf v vo vp on (hashesS (y3, e3) k).2 (hashesS (y3, e3) k).1)) (fun i _ => c - (intOf i).toNat)
  case atStart => exact ⟨0, Nat.zero_le _, rfl, Lib.hid ⟨_, _, M.out⟩⟩
  case round =>
    clear M
    obtain ⟨k, hk, rfl, M⟩ := hrel
    obtain ⟨v4, vp, M⟩ := M.out
    obtain ⟨yk, ek, hs⟩ : ∃ yk ek, (hashesS (y3, e3) k).2 = (yk, ek) := ⟨_, _, rfl⟩
    have hek := hashesS_fine (y3, e3) HF3.out k
    have hlk := hashesS_len (y3, e3) k
    have hpl := hashesS_length (y3, e3) k
    obtain ⟨ps, hps⟩ : ∃ ps, ps = (hashesS (y3, e3) k).1 := ⟨_, rfl⟩
    rw [hs, ← hps] at M
    rw [← hps] at hpl
    rw [hs] at hek hlk
    obtain ⟨a4, c4, rfl, -⟩ := id (show BytesIn wr v4 yk from M.vin)
    obtain ⟨ap, cp, rfl⟩ := flat_wide M.path
    rw [hpl] at M
    have HPS := Lib.hid hps
    clear hps
    replace M := Lib.hid M
    have HS := Lib.hid hs
    have HPL := Lib.hid hpl
    by_cases hlt : k < c
    · have hkI : (k : Int) < (c : Int) := by omega
      obtain ⟨f, y5, e5, h5⟩ : ∃ f y e, hashS (yk, ek) = (f, y, e) := ⟨_, _, _, rfl⟩
      have H5 := Lib.hid h5
      have RH := Lib.hid (show ∀ w, BytesIn w (.slice a4 yk.length c4) yk → Calls Tryz.prog 95 #[.agg (rdC (.slice a4 yk.length c4) (numE ek))] w fun r w' => ∃ v', r = .returned (.tuple #[.agg (rdC v' (numE e5)), .agg (rowOf .u8 32 f)]) ∧ BytesIn w' v' y5 ∧ v'.ownBlock = (Value.slice a4 yk.length c4).ownBlock ∧ Below w.heap.size w w' from fun w h => by
        have := rhash2_any _ yk ek hek w h; rw [h5] at this; exact this)
      clear hs hek hlk hpl h5
      go_upto_region 10 with (fail)
      rw [zeros32]
      obtain ⟨t, ht⟩ : ∃ t, t = wr.heap.size := ⟨_, rfl⟩
      have HT := Lib.hid (show RowAt (wr.alloc (.cells (rowOf .u8 32 (fun _ => 0)) 53)) t .u8 32 53 (fun _ => 0) by rw [ht]; exact RowAt.new wr .u8 32 53 (fun _ => 0))
      have HTB := Lib.hid (show B ≤ t by rw [ht]; exact M.out.size)
      have HTV := Lib.hid (show (Value.slice ap k cp).ownBlock ≠ some t by rw [ht]; exact M.out.own_off)
      rw [← ht]
      replace M := Lib.hid (M.out.call (below_alloc wr (.cells (rowOf .u8 32 (fun _ => 0)) 53)))
      replace ht := Lib.hid ht
      generalize wr.alloc (.cells (rowOf .u8 32 (fun _ => 0)) 53) = w10 at *
      have RD := Lib.hid (show w10.heap[q]? = some (.cells (rdC (.slice a4 yk.length c4) (numE ek)) 129 (0, 0)) from M.out.rd)
      go_upto_region 11 with (first
        | (refine wpList_load_row rfl 129 (.tmp 5) rfl q rfl 129 _ (0, 0) _ RD.out Tryz.underlying129 rfl (by kernel_rfl) ?_)
        | (go_at_call 95; (with_reducible refine (RH.out _ M.out.vin).mono ?_); rintro e w11 ⟨v5, rfl, hy5, ho5, hb11⟩; obtain ⟨a5, c5, rfl, -⟩ := id hy5; have HY5 := Lib.hid hy5; have HO5 := Lib.hid ho5; replace M := Lib.hid (M.out.call hb11); replace HT := Lib.hid (HT.out.below hb11 HT.out.lt); clear hy5 ho5 hb11)
        | (refine wpList_store_row rfl 129 (.tmp 5) (.tmp 39) rfl q (rdC (.slice a5 y5.length c5) (numE e5)) rfl rfl 129 _ M.out.rd (by kernel_rfl) (by rfl) (rd_one _ _ _ _) ?_; replace HT := Lib.hid (show RowAt (w11.setRow q (rdC (.slice a5 y5.length c5) (numE e5))) t .u8 32 53 (fun _ => 0) from (setRow_other _ _ _ _ (by have := HTB.out; have := M.out.hB; omega)).trans HT.out); replace M := Lib.hid (M.out.read (s2 := (y5, e5)) rfl HY5.out (fun hn j hj => M.out.vown (hashS_ne (yk, ek) (by rw [H5.out]; exact hn)) j (by rw [← HO5.out]; exact hj))); generalize w11.setRow q (rdC (.slice a5 y5.length c5) (numE e5)) = w12 at *)
        | (refine wpList_store_row rfl 53 (.tmp 9) (.tmp 40) rfl t (rowOf .u8 32 f) rfl rfl 53 _ HT.out (by rw [rowOf_size]; kernel_rfl) (by simp only [rowOf_size]) (rowOf_one _ _ _) ?_; replace HT := Lib.hid (show RowAt (w12.setRow t (rowOf .u8 32 f)) t .u8 32 53 f from setRow_heap _ _ _ _ _ _ HT.out); replace M := Lib.hid (M.out.off (Only.setRow w12 t (rowOf .u8 32 f)) HTB.out HTV.out); generalize w12.setRow t (rowOf .u8 32 f) = w13 at *))
      obtain ⟨cc0, cc1, cc2, ff⟩ := sig6_cells M.out.sig
      clear cc0 cc1 RD HY5 HO5
      have hsz32 := rowOf_size .u8 32 f
      go_wp2_with (first
        | (refine wpList_load_row rfl 53 (.tmp 9) rfl t rfl 53 _ (0, 0) _ HT.out Tryz.underlying53 rfl (by rw [rowOf_size]; kernel_rfl) ?_)
        | (at_builtin; rw [build32s]; have HR := Lib.hid (RowAt.new w13 .u8 32 53 f); replace M := Lib.hid (M.out.call (below_alloc w13 (.cells (rowOf .u8 32 f) 53))); generalize w13.alloc (.cells (rowOf .u8 32 f) 53) = w14 at *; (refine wpList_append_hashes rfl (.tmp 42) (.tmp 44) rfl rfl B _ ps.length _ rfl M.out.path _ [f] rfl (one_hash HR.out) (by rw [HPL.out]; show (k + 1) * 32 ≤ _; omega) M.out.size ?_); intro v' w15 ho hg; obtain ⟨hsig, hm⟩ := M.out.more hg ho; obtain ⟨av', cv', rfl⟩ := flat_wide ho; have M2 := Lib.hid hm; clear cc2 ff; obtain ⟨-, -, cc2, ff⟩ := sig6_cells hsig; have ff2 := ff 2; clear ho hg hm hsig HR M HT))
      clear cc2 ff ff2
      generalize w15.setCell ⟨w.heap.size + 1, 2, none⟩ _ = w16 at *
      go_roundw
      case rel => exact ⟨k + 1, by omega, by go_num, Lib.hid ⟨_, _, by have h := M2.out; unfold hashesS; rw [← HPS.out, HS.out, H5.out]; exact h⟩⟩
      case measure => simp [intOf]; omega
    · obtain rfl : k = c := by omega
      have hkI : ¬ (k : Int) < (k : Int) := by omega
      have hyl : yk.length ≤ 140737488355328 := by have := HL3.out; simp only at hlk; omega
      have RD := Lib.hid (show wr.heap[q]? = some (.cells (rdC (.slice a4 yk.length c4) (numE ek)) 129 (0, 0)) from M.out.rd)
      have HVW := Lib.hid (show (sgC lf vo (.slice ap k cp)).all (·.oneCell') = true by rw [← hvo]; exact sg_one _ _ _ _ _ _ _)
      have HDA := Lib.hid (show ∀ w, BytesIn w (.slice a4 yk.length c4) yk → Calls Tryz.prog 72 #[.agg (rdC (.slice a4 yk.length c4) (numE ek))] w fun r w' => r = .returned (.int .i64 (numE (doneE (yk, ek)))) ∧ Below w.heap.size w w' from fun w h => rdone2_any _ yk ek hek w h hyl)
      by_cases hd : doneE (yk, ek) = none
      · have HDO := Lib.hid (show ∀ w, BytesIn w (.slice a4 yk.length c4) yk → Calls Tryz.prog 72 #[.agg (rdC (.slice a4 yk.length c4) (numE ek))] w fun r w' => r = .returned (.int .i64 0) ∧ Below w.heap.size w w' from fun w h => by have := HDA.out w h; rw [hd] at this; exact this)
        have HDD := Lib.hid (show decS xs = (⟨lf, on, ps⟩, none) by rw [HD.out, HS.out, if_pos hd, HPS.out])
        clear hd hek hlk hpl hs HDA
        go_wp2_with (first
          | (refine wpList_load_row rfl 129 (.tmp 5) rfl q rfl 129 _ (0, 0) _ RD.out Tryz.underlying129 rfl (by kernel_rfl) ?_)
          | (go_at_call 72; (with_reducible refine (HDO.out _ M.out.vin).mono ?_); rintro e w9 ⟨rfl, hb9⟩; replace M := Lib.hid (M.out.call hb9); clear hb9)
          | (refine wpList_load_row rfl 232 (.tmp 4) rfl (w.heap.size + 1) rfl 232 _ (0, 0) _ M.out.sig Tryz.underlying232 rfl (by kernel_rfl) ?_)
          | (refine wpList_store_row rfl 232 (.tmp 2) (.tmp 51) rfl w.heap.size (sgC lf vo (.slice ap k cp)) rfl rfl 232 _ M.out.res (by kernel_rfl) (by rfl) HVW.out ?_))
        refine bodyPost_ret (results_cell_tmp_row rfl _ _ w.heap.size 232 (sgC lf vo (.slice ap k cp)) (0, 0) _ rfl (setRow_heap _ _ _ _ _ _ M.out.res) Tryz.underlying232 rfl (by kernel_rfl)) rfl ?_
        rw [HDD.out]
        have HO := Only.setRow w9 w.heap.size (sgC lf vo (.slice ap k cp))
        have h2 := M.out.hq
        have h4 := M.out.hB
        refine ⟨vo, .slice ap k cp, rfl, bytes_rowG M.out.oin M.out.res (sgC_no _ _ _ _ _ _ _) _, ?_, below_setRow M.out.below (by omega) _⟩
        exact HashesIn.of_own (M.out.path.kept HO.grown (.inr fun e => by have h1 := (M.out.path.lt _ e).1; omega))
      · have hde : ∃ x, doneE (yk, ek) = some x ∧ x ≠ 0 := by
          cases h : doneE (yk, ek) with
          | none => exact absurd h hd
          | some x =>
            refine ⟨x, rfl, fun h0 => ?_⟩
            subst h0
            unfold doneE at h
            cases ek with
            | some z => exact hek h
            | none =>
              simp only at h
              split at h <;> simp at h
        obtain ⟨x, hx, hx0⟩ := hde
        have hne : ((x : Int) != 0) = true := by simp; omega
        have HDO := Lib.hid (show ∀ w, BytesIn w (.slice a4 yk.length c4) yk → Calls Tryz.prog 72 #[.agg (rdC (.slice a4 yk.length c4) (numE ek))] w fun r w' => r = .returned (.int .i64 (x : Int)) ∧ Below w.heap.size w w' from fun w h => by have := HDA.out w h; rw [hx] at this; exact this)
        have HDD := Lib.hid (show decS xs = (zSg, some 3) by rw [HD.out, HS.out, if_neg hd])
        clear hd hek hlk hpl hs HDA hx
        go_wp2_with (first
          | (refine wpList_load_row rfl 129 (.tmp 5) rfl q rfl 129 _ (0, 0) _ RD.out Tryz.underlying129 rfl (by kernel_rfl) ?_)
          | (go_at_call 72; (with_reducible refine (HDO.out _ M.out.vin).mono ?_); rintro e w9 ⟨rfl, hb9⟩; replace M := Lib.hid (M.out.call hb9); clear hb9)
          | (refine wpList_store_row rfl 232 (.tmp 2) (.tmp 50) rfl w.heap.size (sgC 0 (.slice none 0 0) (.slice none 0 0)) rfl rfl 232 _ M.out.res (by kernel_rfl) (by rfl) (sgz_one 0) ?_))
        refine bodyPost_ret (results_cell_tmp_row rfl _ _ w.heap.size 232 (sgC 0 (.slice none 0 0) (.slice none 0 0)) (0, 0) _ rfl (setRow_heap _ _ _ _ _ _ M.out.res) Tryz.underlying232 rfl (by kernel_rfl)) rfl ?_
        rw [HDD.out]
        exact ⟨_, _, rfl, ⟨_, _, rfl, Nat.le_refl _, by unfold maxLen; decide, .inl rfl⟩, ⟨_, _, rfl, Nat.le_refl _, by unfold maxLen; decide, .inl rfl⟩, below_setRow M.out.below (by omega) _⟩
end Go.Proofs.YtejglhlodfhgkaaGreatDoor
namespace Go.Proofs.YtejglhlodfhgkaaGreatDoor
set_option linter.unusedVariables false
set_option linter.unusedSimpArgs false
open Go.RowKit
set_option maxRecDepth 100000
theorem leavesL_more (m : Nat) (G : Nat → Nat → Int) : leavesL (m + 1) G = leavesL m G ++ [G m] := by simp [leavesL, List.range_succ]
/-- what lies in memory while the reference lays the leaves -/
structure LvM (w w' : World) (F : Nat → Int) (D k : Nat) (v : Value) (ps : List (Nat → Int)) : Prop where
  below : Below w.heap.size w w'
  row : RowAt w' w.heap.size .u8 32 53 F
  par : w'.heap[w.heap.size + 1]? = some (.cells (parC D k) 57 (0, 0))
  own : w'.ownsRow (w.heap.size + 2) 53 32 v ps.length (flatC ps)
  size : w.heap.size + 2 ≤ w'.heap.size
section
variable {w w' w2 : World} {F : Nat → Int} {D k : Nat} {v v' : Value} {ps : List (Nat → Int)} {f : Nat → Int}
theorem LvM.call (m : LvM w w' F D k v ps) (h : Below w'.heap.size w' w2) : LvM w w2 F D k v ps :=
  ⟨m.below.trans (h.mono m.below.size), m.row.below h m.row.lt, (h.block _ (heap_lt' m.par)).trans m.par, m.own.kept (grown_of_below h) (own_ne m.own), Nat.le_trans m.size h.size⟩
theorem LvM.more (m : LvM w w' F D k v ps) (hg : w'.grownBy w2 v.ownBlock) (ho : w2.ownsRow (w.heap.size + 2) 53 32 v' (ps.length + [f].length) (flatC ps ++ flatC [f])) : LvM w w2 F D k v' (ps ++ [f]) := by
  have hsz := m.size
  have hne : ∀ j, j < w.heap.size + 2 → v.ownBlock ≠ some j := fun j hj e => by have := (m.own.lt j e).1; omega
  have hb : ∀ j, j < w.heap.size + 2 → w2.heap[j]? = w'.heap[j]? := fun j hj => hg.block j (by omega) (fun e => hne j hj e.symm)
  refine ⟨⟨hg.os.trans m.below.os, hg.tape.trans m.below.tape, hg.output.trans m.below.output, Nat.le_trans m.below.size hg.size, fun j hj => (hb j (by omega)).trans (m.below.block j hj)⟩, (hb _ (by omega)).trans m.row, (hb _ (by omega)).trans m.par, ?_, Nat.le_trans hsz hg.size⟩
  rw [List.length_append]
  rw [flatC_app1] at ho
  exact ho
end
set_option maxHeartbeats 2000000 in
theorem rleaves_ok (F : Nat → Int) (D k : Nat) (w : World) (hd : 1 ≤ D ∧ D ≤ 32) (hk : k ≤ 10) :
    Calls Tryz.prog 78 #[.agg (rowOf .u8 32 F), .agg (parC D k)] w fun e w' => ∃ v, e = .returned v ∧ HashesIn w' v (keyL F D k) ∧ Below w.heap.size w w' := by
  obtain ⟨n, hn⟩ : ∃ n : Nat, n = 2 ^ k := ⟨_, rfl⟩
  have hnb : n ≤ 1024 := by rw [hn]; exact Nat.pow_le_pow_right (n := 2) (by omega) hk
  have hshl : wrap64 ((2 : Int) ^ k) = (n : Int) := by
    have h2 : (2 : Int) ^ k = ((2 ^ k : Nat) : Int) := by simp
    rw [h2, ← hn]; exact IntWalk.wrap64_in _ ⟨by omega, by omega⟩
  have hkI : (0 : Int) ≤ k := by omega
  have HN := Lib.hid hn
  have HD := Lib.hid hd
  obtain ⟨w1, hw1⟩ : ∃ w1, (w.alloc (.cells (rowOf .u8 32 F) 53)).alloc (.cells #[.int .i64 (D : Int), .int .i64 (k : Int)] 57) = w1 := ⟨_, rfl⟩
  obtain ⟨hb, hf, hp⟩ := key_start w F D k
  have hs1 : w.heap.size + 2 ≤ w1.heap.size := by rw [← hw1]; simp
  rw [hw1] at hb hf hp
  have M := Lib.hid (show LvM w w1 F D k (.slice none 0 0) [] from ⟨hb, hf, hp, World.ownsRow_nil _ _ _ _, hs1⟩)
  replace hw1 := Lib.hid hw1
  have hdI : (D : Int) ≤ 32 := by omega
  have hkb : (k : Int) ≤ 10 := by omega
  clear hd hk hn hb hf hp hs1
  unfold parC
  go_enter Tryz.func78, Tryz.ntmps78
  go_upto_region 1 with (fail)
  rw [hw1.out]
  go_wp2_with (fail)
  go_loopw [5, 6] (fun r i wr => ∃ m : Nat, m ≤ n ∧ i = .int .i64 (m : Int) ∧ Hid (LvM w wr F D k r (leavesL m (fun i => pubF F (i : Int) D)))) (fun _ i _ => n - (intOf i).toNat)
  case atStart => exact ⟨0, Nat.zero_le _, rfl, M⟩
  case round =>
    clear M
    obtain ⟨m, hm, rfl, M⟩ := hrel
    have hpl : (leavesL m (fun i => pubF F (i : Int) D)).length = m := by simp [leavesL]
    obtain ⟨ps, hps⟩ : ∃ ps, ps = leavesL m (fun i => pubF F (i : Int) D) := ⟨_, rfl⟩
    rw [← hps] at M hpl
    have HPS := Lib.hid hps
    have HPL := Lib.hid hpl
    obtain ⟨ap, cp, rfl⟩ := flat_wide M.out.own
    clear hps hpl
    obtain ⟨c0, c1⟩ : wr.cell? ⟨w.heap.size + 1, 0, none⟩ = some (.int .i64 (D : Int)) ∧ wr.cell? ⟨w.heap.size + 1, 1, none⟩ = some (.int .i64 (k : Int)) := ⟨by rw [cell_of_row _ _ _ _ _ _ M.out.par]; rfl, by rw [cell_of_row _ _ _ _ _ _ M.out.par]; rfl⟩
    by_cases hlt : m < n
    · have hmI : (m : Int) < (n : Int) := by omega
      obtain ⟨f, hf⟩ : ∃ f, f = pubF F (m : Int) D := ⟨_, rfl⟩
      have RP := Lib.hid (show ∀ w, Calls Tryz.prog 148 #[.agg (rowOf .u8 32 F), .int .i64 (m : Int), .int .i64 (D : Int)] w fun e w' => e = .returned (.tuple #[.agg (rowOf .u8 32 f), .int .i64 0]) ∧ Below w.heap.size w w' from fun w => by
        rw [hf]; exact rpublic_ok F m D w (by omega) HD.out)
      have HF := Lib.hid hf
      have hsz32 := rowOf_size .u8 32 f
      clear hf
      go_upto_region 6 with (first
        | (refine wpList_load_row rfl 53 (.tmp 2) rfl w.heap.size rfl 53 _ (0, 0) _ M.out.row Tryz.underlying53 rfl (by rw [rowOf_size]; kernel_rfl) ?_)
        | (go_at_call 148; (with_reducible refine (RP.out _).mono ?_); rintro e w3 ⟨rfl, hb3⟩; replace M := Lib.hid (M.out.call hb3); clear hb3)
        | (refine wpList_store_row rfl 53 (.tmp 7) (.tmp 23) rfl w3.heap.size (rowOf .u8 32 f) rfl rfl 53 _ (heap_alloc_new _ _) (by rw [rowOf_size]; kernel_rfl) (by rw [rowOf_size]; rfl) (rowOf_one _ _ _) ?_; rw [World.setRow_alloc_new]))
      have HT := Lib.hid (RowAt.new w3 .u8 32 53 f)
      replace M := Lib.hid (M.out.call (below_alloc w3 (.cells (rowOf .u8 32 f) 53)))
      generalize w3.alloc (.cells (rowOf .u8 32 f) 53) = w4 at *
      clear c0 c1
      go_wp2_with (first
        | (refine wpList_load_row rfl 53 (.tmp 7) rfl w3.heap.size rfl 53 _ (0, 0) _ HT.out Tryz.underlying53 rfl (by rw [rowOf_size]; kernel_rfl) ?_)
        | (at_builtin; rw [build32s]; have HR := Lib.hid (RowAt.new w4 .u8 32 53 f); replace M := Lib.hid (M.out.call (below_alloc w4 (.cells (rowOf .u8 32 f) 53))); generalize w4.alloc (.cells (rowOf .u8 32 f) 53) = w5 at *; (refine wpList_append_hashes rfl (.tmp 25) (.tmp 27) rfl rfl (w.heap.size + 2) _ ps.length _ rfl M.out.own _ [f] rfl (one_hash HR.out) (by rw [HPL.out]; show (m + 1) * 32 ≤ _; omega) M.out.size ?_); intro v' w6 ho hg; have M2 := Lib.hid (M.out.more hg ho); clear ho hg HR M HT))
      go_roundw
      case rel => exact ⟨m + 1, by omega, by go_num, Lib.hid (by have h := M2.out; rw [leavesL_more, ← HPS.out, ← HF.out]; exact h)⟩
      case measure => simp [intOf]; omega
    · have HMN := Lib.hid (show m = n by omega)
      have hmI : ¬ (m : Int) < (n : Int) := by omega
      go_wp2_with (fail)
      go_ret
      refine ⟨_, rfl, ?_, M.out.below⟩
      have h := HashesIn.of_own M.out.own
      unfold keyL
      rw [← HN.out, ← HMN.out, ← HPS.out]
      exact h
/-- the reference's Root, in all cases -/
theorem rkroot_no (F : Nat → Int) (D E : Int) (w : World) (h : ¬ kOk D E) :
    Calls Tryz.prog 26 #[.agg (rowOf .u8 32 F), .agg (parC D E)] w fun e w' => e = .returned (.tuple #[.agg (rowOf .u8 32 (fun _ => 0)), .int .i64 20]) ∧ Below w.heap.size w w' := by
  have HCK := Lib.hid (show ∀ w, Calls Tryz.prog 76 #[.agg #[.int .i64 D, .int .i64 E]] w fun e w' => e = .returned (.int .i64 20) ∧ Below w.heap.size w w' from fun w => by
    have := rcheck_any D E w
    rw [show ckR D E = some 20 by unfold ckR; rw [if_neg h]] at this
    exact this)
  obtain ⟨w1, hw1⟩ : ∃ w1, ((w.alloc (.cells (rowOf .u8 32 F) 53)).alloc (.cells #[.int .i64 D, .int .i64 E] 57)).alloc (.cells (rowOf .u8 32 (fun _ => 0)) 53) = w1 := ⟨_, rfl⟩
  obtain ⟨hb, hf, hp, hr⟩ := key_start3 w F D E w1 hw1
  have HB := Lib.hid hb
  have HP := Lib.hid hp
  have HR := Lib.hid hr
  replace hw1 := Lib.hid hw1
  clear h hb hf hp hr
  unfold parC
  go_enter Tryz.func26, Tryz.ntmps26
  go_upto_region 1 with (fail)
  rw [zeros32, hw1.out]
  go_wp2_with (first
    | (refine wpList_load_row rfl 57 (.tmp 3) rfl (w.heap.size + 1) rfl 57 _ (0, 0) _ HP.out Tryz.underlying57 rfl (by kernel_rfl) ?_)
    | (go_at_call 76; (with_reducible refine (HCK.out _).mono ?_); rintro e w2 ⟨rfl, hb⟩; replace HR := Lib.hid (HR.out.below hb HR.out.lt); replace HB := Lib.hid (HB.out.trans (hb.mono HB.out.size)); clear hb)
    | (refine wpList_store_row rfl 53 (.tmp 4) (.tmp 11) rfl (w.heap.size + 1 + 1) (rowOf .u8 32 (fun _ => 0)) rfl rfl 53 _ HR.out (by rw [rowOf_size]; kernel_rfl) rfl (rowOf_one _ _ _) ?_))
  refine bodyPost_ret (results_cell_tmp_row rfl _ _ (w.heap.size + 1 + 1) 53 (rowOf .u8 32 (fun _ => 0)) (0, 0) _ rfl (setRow_heap _ _ _ _ _ _ HR.out) Tryz.underlying53 rfl (by rw [rowOf_size]; kernel_rfl)) rfl ?_
  exact ⟨rfl, below_setRow HB.out (by omega) _⟩
theorem rkroot_ok (F : Nat → Int) (D k : Nat) (w : World) (hd : 1 ≤ D ∧ D ≤ 32) (hk : k ≤ 10) :
    Calls Tryz.prog 26 #[.agg (rowOf .u8 32 F), .agg (parC D k)] w fun e w' => e = .returned (.tuple #[.agg (rowOf .u8 32 (rootF (keyL F D k))), .int .i64 0]) ∧ Below w.heap.size w w' := by
  have HCK := Lib.hid (show ∀ w, Calls Tryz.prog 76 #[.agg #[.int .i64 D, .int .i64 k]] w fun e w' => e = .returned (.int .i64 0) ∧ Below w.heap.size w w' from fun w => by
    have := rcheck_any D k w
    rw [show ckR D k = none by unfold ckR; rw [if_pos (by unfold kOk; omega)]] at this
    exact this)
  have HLV := Lib.hid (show ∀ w, Calls Tryz.prog 78 #[.agg (rowOf .u8 32 F), .agg #[.int .i64 D, .int .i64 k]] w fun e w' => ∃ v, e = .returned v ∧ HashesIn w' v (keyL F D k) ∧ Below w.heap.size w w' from fun w => rleaves_ok F D k w hd hk)
  obtain ⟨w1, hw1⟩ : ∃ w1, ((w.alloc (.cells (rowOf .u8 32 F) 53)).alloc (.cells #[.int .i64 D, .int .i64 k] 57)).alloc (.cells (rowOf .u8 32 (fun _ => 0)) 53) = w1 := ⟨_, rfl⟩
  obtain ⟨hb, hf, hp, hr⟩ := key_start3 w F D k w1 hw1
  have HB := Lib.hid hb
  have HF := Lib.hid hf
  have HP := Lib.hid hp
  have HR := Lib.hid hr
  obtain ⟨RT, hRT⟩ : ∃ RT, rootF (keyL F D k) = RT := ⟨_, rfl⟩
  rw [hRT]
  replace hRT := Lib.hid hRT
  replace hw1 := Lib.hid hw1
  clear hd hk hb hf hp hr
  unfold parC
  go_enter Tryz.func26, Tryz.ntmps26
  go_upto_region 1 with (fail)
  rw [zeros32, hw1.out]
  go_wp2_with (first
    | (refine wpList_load_row rfl 53 (.tmp 2) rfl w.heap.size rfl 53 _ (0, 0) _ HF.out Tryz.underlying53 rfl (by rw [rowOf_size]; kernel_rfl) ?_)
    | (refine wpList_load_row rfl 57 (.tmp 3) rfl (w.heap.size + 1) rfl 57 _ (0, 0) _ HP.out Tryz.underlying57 rfl (by kernel_rfl) ?_)
    | (go_at_call 76; (with_reducible refine (HCK.out _).mono ?_); rintro e w2 ⟨rfl, hb⟩; replace HF := Lib.hid (HF.out.below hb HF.out.lt); replace HP := Lib.hid ((hb.block _ (heap_lt' HP.out)).trans HP.out); replace HR := Lib.hid (HR.out.below hb HR.out.lt); replace HB := Lib.hid (HB.out.trans (hb.mono HB.out.size)); clear hb)
    | (go_at_call 78; (with_reducible refine (HLV.out _).mono ?_); rintro e w3 ⟨v, rfl, hl, hb⟩; have HL := Lib.hid hl; replace HR := Lib.hid (HR.out.below hb HR.out.lt); replace HB := Lib.hid (HB.out.trans (hb.mono HB.out.size)); clear hb hl)
    | (go_at_call 77; (with_reducible refine (rroot_any _ _ rfl _ _ HL.out).mono ?_); rintro e w4 ⟨rfl, hb⟩; rw [hRT.out]; replace HR := Lib.hid (HR.out.below hb HR.out.lt); replace HB := Lib.hid (HB.out.trans (hb.mono HB.out.size)); clear hb)
    | (refine wpList_store_row rfl 53 (.tmp 4) (.tmp 16) rfl (w.heap.size + 1 + 1) _ rfl rfl 53 _ HR.out (by rw [rowOf_size]; kernel_rfl) (by rw [rowOf_size, rowOf_size]) (rowOf_one _ _ _) ?_))
  refine bodyPost_ret (results_cell_tmp_row rfl _ _ (w.heap.size + 1 + 1) 53 (rowOf .u8 32 RT) (0, 0) _ rfl (setRow_heap _ _ _ _ _ _ HR.out) Tryz.underlying53 rfl (by rw [rowOf_size]; kernel_rfl)) rfl ?_
  exact ⟨rfl, below_setRow HB.out (by omega) _⟩
theorem rkroot_any (F : Nat → Int) (D E : Int) (w : World) :
    Calls Tryz.prog 26 #[.agg (rowOf .u8 32 F), .agg (parC D E)] w fun e w' => e = .returned (.tuple #[.agg (rowOf .u8 32 (kRootR F D E).1), .int .i64 (numE (kRootR F D E).2)]) ∧ Below w.heap.size w w' := by
  unfold kRootR
  by_cases h : kOk D E
  · rw [if_pos h]
    have h2 := h
    unfold kOk at h2
    obtain ⟨d, rfl⟩ : ∃ d : Nat, D = (d : Int) := ⟨D.toNat, by omega⟩
    obtain ⟨k, rfl⟩ : ∃ k : Nat, E = (k : Int) := ⟨E.toNat, by omega⟩
    rw [Int.toNat_natCast, Int.toNat_natCast]
    exact rkroot_ok F d k w (by omega) (by omega)
  · rw [if_neg h]
    exact rkroot_no F D E w h
end Go.Proofs.YtejglhlodfhgkaaGreatDoor
namespace Go.Proofs.YtejglhlodfhgkaaGreatDoor
set_option linter.unusedVariables false
set_option linter.unusedSimpArgs false
open Go.RowKit
set_option maxRecDepth 100000
theorem par_cells2 {w : World} {g : Nat} {D E : Int} (h : w.heap[g]? = some (.cells (parC D E) 57 (0, 0))) : w.cell? ⟨g, 0, none⟩ = some (.int .i64 D) ∧ w.cell? ⟨g, 1, none⟩ = some (.int .i64 E) :=
  ⟨by rw [cell_of_row _ _ _ _ _ _ h]; rfl, by rw [cell_of_row _ _ _ _ _ _ h]; rfl⟩
structure RvM (w w' : World) (F : Nat → Int) (D E : Int) : Prop where
  below : Below w.heap.size w w'
  row : RowAt w' w.heap.size .u8 32 53 F
  par : w'.heap[w.heap.size + 1]? = some (.cells (parC D E) 57 (0, 0))
theorem RvM.call {w w' w2 : World} {F : Nat → Int} {D E : Int} (m : RvM w w' F D E) (h : Below w'.heap.size w' w2) : RvM w w2 F D E :=
  ⟨m.below.trans (h.mono m.below.size), m.row.below h m.row.lt, (h.block _ (heap_lt' m.par)).trans m.par⟩
theorem rvM_start (w : World) (F : Nat → Int) (D E : Int) : RvM w (verW w F D E) F D E := by
  obtain ⟨h1, h2, h3⟩ := key_start w F D E
  exact ⟨h1, h2, h3⟩
theorem fromR_no0 (ss : List Int) (leaf : Int) (xs : List Int) : (fromR ss leaf xs).2 ≠ some 0 := by
  unfold fromR
  split
  · split <;> simp
  · simp
theorem foldR_no0 (s0 : Nat → Int) (i : Int) (n : Nat) (ps : List (Nat → Int)) : (foldR s0 i n ps).2 ≠ some 0 := by
  unfold foldR
  split
  · split <;> simp
  · simp
theorem rkverify_no (F : Nat → Int) (D E : Int) (vt vs : Value) (w : World) (h : ¬ kOk D E) :
    Calls Tryz.prog 80 #[.agg (rowOf .u8 32 F), .agg (parC D E), vt, vs] w fun e w' => e = .returned (.int .i64 20) ∧ Below w.heap.size w w' := by
  have HC := Lib.hid (show ∀ w, Calls Tryz.prog 76 #[.agg (parC D E)] w fun e w' => e = .returned (.int .i64 20) ∧ Below w.heap.size w w' from fun w => by
    have h2 := rcheck_any D E w; rw [show ckR D E = some 20 by unfold ckR; rw [if_neg h]] at h2; exact h2)
  have M := Lib.hid (rvM_start w F D E)
  clear h
  go_enter Tryz.func80, Tryz.ntmps80
  go_upto_region 1 with (fail)
  have e0 : (w.alloc (.cells (rowOf .u8 32 F) 53)).alloc (.cells (parC D E) 57) = verW w F D E := rfl
  rw [e0]; clear e0
  generalize verW w F D E = w1 at *
  go_wp2_with (first
    | (refine wpList_load_row rfl 57 (.tmp 5) rfl (w.heap.size + 1) rfl 57 _ (0, 0) _ M.out.par Tryz.underlying57 rfl (by kernel_rfl) ?_)
    | (go_at_call 76; (with_reducible refine (HC.out _).mono ?_); rintro e w2 ⟨rfl, hb⟩; replace M := Lib.hid (M.out.call hb); clear hb))
  go_ret
  exact ⟨rfl, M.out.below⟩
theorem decS_err {xs : List Int} {x : Nat} (h : (decS xs).2 = some x) : x = 3 := by
  unfold decS at h
  split at h
  · simp at h
  · simp at h; omega
set_option maxHeartbeats 2000000 in
theorem rkverify_ok (F : Nat → Int) (D : Int) (k : Nat) (vt vs : Value) (text sign : List Int) (w : World) (hD : 1 ≤ D ∧ D ≤ 32) (hk : k ≤ 10) (ht : BytesIn w vt text) (htl : text.length + 81 ≤ 140737488355328) (hs : BytesIn w vs sign) (hb : bytesOk sign) (hl : sign.length ≤ 140737488351232) :
    Calls Tryz.prog 80 #[.agg (rowOf .u8 32 F), .agg (parC D k), vt, vs] w fun e w' => e = .returned (.int .i64 (numE (verR F D k text sign))) ∧ Below w.heap.size w w' := by
  have hok : kOk D (k : Int) := by unfold kOk; omega
  have HC := Lib.hid (show ∀ w, Calls Tryz.prog 76 #[.agg (parC D k)] w fun e w' => e = .returned (.int .i64 0) ∧ Below w.heap.size w w' from fun w => by
    have h2 := rcheck_any D k w; rw [show ckR D k = none by unfold ckR; rw [if_pos hok]] at h2; exact h2)
  have HV := Lib.hid (show verR F D k text sign = match (decS sign).2 with
    | some x => some x
    | none => if (signerR (decS sign).1 D k text).2 = none ∧ eqB (signerR (decS sign).1 D k text).1 F = true then none else some 21 by unfold verR; rw [if_pos hok] <;> rfl)
  have M := Lib.hid (rvM_start w F D k)
  have HT := Lib.hid ht
  have HS := Lib.hid hs
  have HTL := Lib.hid htl
  obtain ⟨n, hn⟩ : ∃ n : Nat, n = 2 ^ k := ⟨_, rfl⟩
  have hnb : n ≤ 1024 := by rw [hn]; exact Nat.pow_le_pow_right (n := 2) (by omega) hk
  have hshl : wrap64 ((2 : Int) ^ k) = (n : Int) := by
    have h2 : (2 : Int) ^ k = ((2 ^ k : Nat) : Int) := by simp
    rw [h2, ← hn]; exact IntWalk.wrap64_in _ ⟨by omega, by omega⟩
  have hkI : (0 : Int) ≤ k := by omega
  have hkb : (k : Int) ≤ 10 := by omega
  have HN := Lib.hid hn
  have HDC := Lib.hid (fun w h => rparts_any vs sign w h hb hl)
  obtain ⟨hd0, hd1, -⟩ := digR_ok (xs := text) hD
  obtain ⟨dg, hdg⟩ : ∃ dg, dg = (digR text D).1 := ⟨_, rfl⟩
  have HDG := Lib.hid (show ∀ w, BytesIn w vt text → Calls Tryz.prog 153 #[vt, .int .i64 D] w fun e w' => ∃ v', e = .returned (.tuple #[v', .int .i64 0]) ∧ BytesIn w' v' dg ∧ Below w.heap.size w w' from fun w h => by
    have := rdigest_any vt text D w h HTL.out; rw [hd0, ← hdg] at this; exact this)
  rw [← hdg] at hd1
  have HDB := Lib.hid hd1
  have HSG := Lib.hid (show ∀ s : Sg, signerR s D k text = match (fromR s.once (s.leaf : Int) dg).2 with | some x => (zF, some x) | none => foldR (fromR s.once (s.leaf : Int) dg).1 (s.leaf : Int) n s.path from fun s => by
    unfold signerR; rw [hd0, ← hdg, hn]; simp only [Int.toNat_natCast] <;> rfl)
  have HE3 := Lib.hid (show ∀ x, (decS sign).2 = some x → x = 3 from fun x h => decS_err h)
  clear ht hs hb hl hok hn hD hk hd0 hd1 hdg htl
  obtain ⟨sg, er, hsg⟩ : ∃ sg er, decS sign = (sg, er) := ⟨_, _, rfl⟩
  rw [hsg] at HV HDC HE3
  clear hsg
  go_enter Tryz.func80, Tryz.ntmps80
  go_upto_region 1 with (fail)
  have e0 : (w.alloc (.cells (rowOf .u8 32 F) 53)).alloc (.cells (parC D k) 57) = verW w F D k := rfl
  rw [e0]; clear e0
  generalize verW w F D k = w1 at *
  cases er with
  | some x =>
    obtain rfl : x = 3 := HE3.out _ rfl
    go_wp2_with (first
      | (refine wpList_load_row rfl 57 (.tmp 5) rfl (w.heap.size + 1) rfl 57 _ (0, 0) _ M.out.par Tryz.underlying57 rfl (by kernel_rfl) ?_)
      | (go_at_call 76; (with_reducible refine (HC.out _).mono ?_); rintro e w2 ⟨rfl, hb⟩; replace M := Lib.hid (M.out.call hb); clear hb)
      | (go_at_call 152; (with_reducible refine (HDC.out _ (HS.out.below M.out.below)).mono ?_); rintro e w3 ⟨vo, vp, rfl, ho, hp, hb⟩; rw [show numE (some 3) = 3 from rfl]; have HW := Lib.hid (sg_all sg.leaf ho hp); replace M := Lib.hid (M.out.call hb); clear ho hp hb)
      | (refine wpList_store_row rfl 232 (.tmp 9) (.tmp 23) rfl w3.heap.size (sgC sg.leaf vo vp) rfl rfl 232 _ (heap_alloc_new _ _) (by kernel_rfl) (by rfl) HW.out ?_; rw [World.setRow_alloc_new]; replace M := Lib.hid (M.out.call (below_alloc w3 (.cells (sgC sg.leaf vo vp) 232))); generalize w3.alloc (.cells (sgC sg.leaf vo vp) 232) = w4 at *))
    go_ret
    rw [HV.out]
    exact ⟨rfl, M.out.below⟩
  | none =>
    go_upto_region 6 with (first
      | (refine wpList_load_row rfl 57 (.tmp 5) rfl (w.heap.size + 1) rfl 57 _ (0, 0) _ M.out.par Tryz.underlying57 rfl (by kernel_rfl) ?_)
      | (go_at_call 76; (with_reducible refine (HC.out _).mono ?_); rintro e w2 ⟨rfl, hb⟩; replace M := Lib.hid (M.out.call hb); clear hb)
      | (go_at_call 152; (with_reducible refine (HDC.out _ (HS.out.below M.out.below)).mono ?_); rintro e w3 ⟨vo, vp, rfl, ho, hp, hb⟩; rw [show numE none = 0 from rfl]; have HW := Lib.hid (sg_all sg.leaf ho hp); replace M := Lib.hid (M.out.call hb); have HO := Lib.hid ho; have HP := Lib.hid hp; clear ho hp hb)
      | (refine wpList_store_row rfl 232 (.tmp 9) (.tmp 23) rfl w3.heap.size (sgC sg.leaf vo vp) rfl rfl 232 _ (heap_alloc_new _ _) (by kernel_rfl) (by rfl) HW.out ?_; rw [World.setRow_alloc_new]; have HA := Lib.hid (below_alloc w3 (.cells (sgC sg.leaf vo vp) 232)); have SG := Lib.hid (heap_alloc_new w3 (.cells (sgC sg.leaf vo vp) 232)); replace M := Lib.hid (M.out.call HA.out); replace HO := Lib.hid (HO.out.below HA.out); replace HP := Lib.hid (HP.out.below HA.out); clear HA; generalize w3.alloc (.cells (sgC sg.leaf vo vp) 232) = w4 at *))
    obtain ⟨g, hg⟩ : ∃ g, g = w3.heap.size := ⟨_, rfl⟩
    rw [← hg] at SG ⊢
    clear hg
    obtain ⟨p0, p1⟩ := par_cells2 M.out.par
    go_upto_region 7 with (go_at_call 153; (with_reducible refine (HDG.out _ (HT.out.below M.out.below)).mono ?_); rintro e w5 ⟨vd, rfl, hd, hb⟩; have HD5 := Lib.hid hd; replace HO := Lib.hid (HO.out.below hb); replace HP := Lib.hid (HP.out.below hb); replace SG := Lib.hid ((hb.block _ (heap_lt' SG.out)).trans SG.out); replace M := Lib.hid (M.out.call hb); clear hd hb)
    clear p0 p1
    obtain ⟨pf, o1, hfr⟩ : ∃ pf o1, fromR sg.once (sg.leaf : Int) dg = (pf, o1) := ⟨_, _, rfl⟩
    have HFR := Lib.hid (show ∀ w, BytesIn w vo sg.once → BytesIn w vd dg → Calls Tryz.prog 154 #[vo, .int .i64 (sg.leaf : Int), vd] w fun e w' => e = .returned (.tuple #[.agg (rowOf .u8 32 pf), .int .i64 (numE o1)]) ∧ Below w.heap.size w w' from fun w h1 h2 => by
      have := rfrom_any vo sg.once (sg.leaf : Int) vd dg w h1 h2 HDB.out; rw [hfr] at this; exact this)
    have ho1 := fromR_no0 sg.once (sg.leaf : Int) dg
    have hsg := HSG.out sg
    rw [hfr] at hsg ho1
    clear HSG
    have HSG := Lib.hid (show (o1 = none → signerR sg D k text = foldR pf (sg.leaf : Int) n sg.path) ∧ (∀ x, o1 = some x → (signerR sg D k text).2 = some x) from
      ⟨fun h => by rw [h] at hsg; exact hsg, fun x h => by rw [h] at hsg; rw [hsg]⟩)
    clear hsg
    clear hfr
    obtain ⟨s0, s1, s2, -⟩ := sig6_cells SG.out
    go_upto_region 8 with (first
      | (go_at_call 154; (with_reducible refine (HFR.out _ HO.out HD5.out).mono ?_); rintro e w6 ⟨rfl, hb⟩; replace HP := Lib.hid (HP.out.below hb); replace SG := Lib.hid ((hb.block _ (heap_lt' SG.out)).trans SG.out); replace M := Lib.hid (M.out.call hb); clear hb)
      | (refine wpList_store_row rfl 53 (.tmp 13) (.tmp 42) rfl w6.heap.size (rowOf .u8 32 pf) rfl rfl 53 _ (heap_alloc_new _ _) (by rw [rowOf_size]; kernel_rfl) (by rw [rowOf_size]; rfl) (rowOf_one _ _ _) ?_; rw [World.setRow_alloc_new]; have HA := Lib.hid (below_alloc w6 (.cells (rowOf .u8 32 pf) 53)); replace HP := Lib.hid (HP.out.below HA.out); replace SG := Lib.hid ((HA.out.block _ (heap_lt' SG.out)).trans SG.out); replace M := Lib.hid (M.out.call HA.out); have PU := Lib.hid (RowAt.new w6 .u8 32 53 pf); clear HA; generalize w6.alloc (.cells (rowOf .u8 32 pf) 53) = w7 at *))
    clear s0 s1 s2 HO HD5 HDG HDC HDB HFR
    obtain ⟨rf, o2, hfd⟩ : ∃ rf o2, foldR pf (sg.leaf : Int) n sg.path = (rf, o2) := ⟨_, _, rfl⟩
    have HFD := Lib.hid (show ∀ w, HashesIn w vp sg.path → Calls Tryz.prog 155 #[.agg (rowOf .u8 32 pf), .int .i64 (sg.leaf : Int), .int .i64 (n : Int), vp] w fun e w' => e = .returned (.tuple #[.agg (rowOf .u8 32 rf), .int .i64 (numE o2)]) ∧ Below w.heap.size w w' from fun w h1 => by
      have := rFold_any pf (sg.leaf : Int) n sg.path vp w (by omega) h1; rw [hfd] at this; exact this)
    have ho2 := foldR_no0 pf (sg.leaf : Int) n sg.path
    rw [hfd] at HSG ho2
    clear hfd
    have HVV := Lib.hid (show verR F D k text sign = if o1 = none ∧ o2 = none ∧ eqB rf F = true then none else some 21 by
      have hv := HV.out
      rw [hv]
      show (if (signerR sg D k text).2 = none ∧ eqB (signerR sg D k text).1 F = true then none else some 21) = _
      cases o1 with
      | some x => rw [HSG.out.2 x rfl]; simp
      | none => rw [HSG.out.1 rfl]; simp)
    clear HV HSG HE3
    obtain ⟨p0, p1⟩ := par_cells2 M.out.par
    obtain ⟨s0, s1, s2, -⟩ := sig6_cells SG.out
    go_upto_region 9 with (first
      | (refine wpList_load_row rfl 53 (.tmp 13) rfl w6.heap.size rfl 53 _ (0, 0) _ PU.out Tryz.underlying53 rfl (by rw [rowOf_size]; kernel_rfl) ?_)
      | (go_at_call 155; (with_reducible refine (HFD.out _ HP.out).mono ?_); rintro e w8 ⟨rfl, hb⟩; replace M := Lib.hid (M.out.call hb); clear hb)
      | (refine wpList_store_row rfl 53 (.tmp 15) (.tmp 55) rfl w8.heap.size (rowOf .u8 32 rf) rfl rfl 53 _ (heap_alloc_new _ _) (by rw [rowOf_size]; kernel_rfl) (by rw [rowOf_size]; rfl) (rowOf_one _ _ _) ?_; rw [World.setRow_alloc_new]; have HA := Lib.hid (below_alloc w8 (.cells (rowOf .u8 32 rf) 53)); replace M := Lib.hid (M.out.call HA.out); replace PU := Lib.hid (RowAt.new w8 .u8 32 53 rf); clear HA; generalize w8.alloc (.cells (rowOf .u8 32 rf) 53) = w9 at *))
    clear p0 p1 s0 s1 s2 HP SG HFD hshl hkI hkb HT HS HC
    rcases numE_ne ho1 with rfl | ⟨x, rfl, hx, hx0⟩
    · rcases numE_ne ho2 with rfl | ⟨x, rfl, hx, hx0⟩
      · rw [show numE none = 0 from rfl]
        obtain ⟨b, hb⟩ : ∃ b, eqB rf F = b := ⟨_, rfl⟩
        have hneq : ∀ w, (binOp .neq 53 (.agg (rowOf .u8 32 rf)) (.agg (rowOf .u8 32 F))).run Tryz.prog w = .ok (.bool (!b)) w := fun w => by rw [← hb]; exact neq32 rf F w
        rw [hb] at HVV
        clear hb ho1 ho2
        cases b with
        | true =>
          simp only [Bool.not_true] at hneq
          go_wp2_with (first
            | (refine wpList_load_row_want rfl 53 (.tmp 15) rfl _ rfl .u8 32 rf _ PU.out Tryz.underlying53 rfl (by kernel_rfl) ?_)
            | (refine wpList_load_row_want rfl 53 (.tmp 4) rfl _ rfl .u8 32 F _ M.out.row Tryz.underlying53 rfl (by kernel_rfl) ?_))
          go_ret
          rw [HVV.out, if_pos (by simp)]
          exact ⟨rfl, M.out.below⟩
        | false =>
          simp only [Bool.not_false] at hneq
          go_wp2_with (first
            | (refine wpList_load_row_want rfl 53 (.tmp 15) rfl _ rfl .u8 32 rf _ PU.out Tryz.underlying53 rfl (by kernel_rfl) ?_)
            | (refine wpList_load_row_want rfl 53 (.tmp 4) rfl _ rfl .u8 32 F _ M.out.row Tryz.underlying53 rfl (by kernel_rfl) ?_))
          go_ret
          rw [HVV.out, if_neg (by simp)]
          exact ⟨rfl, M.out.below⟩
      · have hne : ((x : Int) != 0) = true := by simp; omega
        rw [show numE none = 0 from rfl, hx]
        clear ho1 ho2 hx
        go_wp2_with (fail)
        go_ret
        rw [HVV.out, if_neg (by simp)]
        exact ⟨rfl, M.out.below⟩
    · have hne : ((x : Int) != 0) = true := by simp; omega
      rw [hx]
      clear ho1 ho2 hx
      go_wp2_with (fail)
      go_ret
      rw [HVV.out, if_neg (by simp)]
      exact ⟨rfl, M.out.below⟩
theorem rkverify_any (F : Nat → Int) (D E : Int) (vt vs : Value) (text sign : List Int) (w : World) (ht : BytesIn w vt text) (htl : text.length + 81 ≤ 140737488355328) (hs : BytesIn w vs sign) (hb : bytesOk sign) (hl : sign.length ≤ 140737488351232) :
    Calls Tryz.prog 80 #[.agg (rowOf .u8 32 F), .agg (parC D E), vt, vs] w fun e w' => e = .returned (.int .i64 (numE (verR F D E text sign))) ∧ Below w.heap.size w w' := by
  by_cases h : kOk D E
  · have h2 := h
    unfold kOk at h2
    obtain ⟨k, rfl⟩ : ∃ k : Nat, E = (k : Int) := ⟨E.toNat, by omega⟩
    exact rkverify_ok F D k vt vs text sign w (by omega) (by omega) ht htl hs hb hl
  · have := rkverify_no F D E vt vs w h
    rw [show verR F D E text sign = some 20 by unfold verR; rw [if_neg h]]
    exact this
end Go.Proofs.YtejglhlodfhgkaaGreatDoor

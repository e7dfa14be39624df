/- Part 42 of the proof. -/
import Derived.Test.YtabflppnecemkaaGreatDoorPb20
import Derived.Test.YtabflppnecemkaaGreatDoorPb27
import Derived.Test.YtabflppnecemkaaGreatDoorPb38
import Derived.Test.YtabflppnecemkaaGreatDoorPb39
import Derived.Test.YtabflppnecemkaaGreatDoorPb41
namespace Go.Proofs.YtabflppnecemkaaGreatDoor
set_option linter.unusedVariables false
set_option linter.unusedSimpArgs false
open Go.RowKit
set_option maxRecDepth 1000000
set_option linter.unusedSimpArgs false
set_option linter.unusedVariables false
theorem anyT_imp {P : Program} {ops : Array Oper} {Q : Exit → Act → World → Prop} {md : Region.Mode} {S S' : World → Prop} {ds : List Nat} (h : ∀ w, S' w → S w) : ∀ (f : Nat) (l : Array Bool) (a : Act) (w : World), anyT P md ops Q S' ds f l a w → anyT P md ops Q S ds f l a w
  | 0, _, _, _, k => k
  | f + 1, _, _, _, k => ⟨k.1, fun i hi => wpOp_mono (fun a' w' h' => ⟨fun hd => h _ (h'.1 hd), anyT_imp h f _ a' w' h'.2⟩) (k.2 i hi)⟩
theorem anyT_kp {P : Program} {ops : Array Oper} {Q : Exit → Act → World → Prop} {md : Region.Mode} {X Y : World → Prop} {ds : List Nat} {w0 : World} (kx : Kept X) {f : Nat} {l : Array Bool} {a : Act} {w : World}
    (h : anyT P md ops Q (fun w' => Kp w0 w' (fun w => X w ∧ Y w)) ds f l a w) : anyT P md ops Q (fun w' => Kp w0 w' X) ds f l a w :=
  anyT_imp (fun _ k => ⟨k.below, k.x.1, kx⟩) _ _ _ _ h
theorem kept_bytes (v : Value) (xs : List Int) : Kept (fun w => BytesIn w v xs) := fun _ _ h hb => h.below hb
theorem kept_prsB (v : Value) (l : List PvP) : Kept (fun w => PrsIn w v l) := fun _ _ h hb => h.below hb
theorem kept_stB (v : Value) (l : List AvS) : Kept (fun w => StIn w v l) := fun _ _ h hb => h.below hb
/-- what lies in memory ahead of the last statement -/
structure PbX (g3 g4 g8 g10 g12 g14 : Nat) (P PX : PvP) (L R NL NR : List PvP) (sv vl vr sx sy ul ur xl xr : Value) (w : World) : Prop where
  h3 : w.heap[g3]? = some (.cells (prC P sv) 24 (0, 0))
  h4 : w.heap[g4]? = some (.cells #[vl, vr] 27 (0, 0))
  h8 : w.heap[g8]? = some (.cells (prC PX sx) 31 (0, 0))
  h10 : w.heap[g10]? = some (.cells (prC PX sy) 24 (0, 0))
  h12 : w.heap[g12]? = some (.cells #[ul, ur] 40 (0, 0))
  h14 : w.heap[g14]? = some (.cells #[xl, xr] 27 (0, 0))
  st : StIn w sv P.steps
  l : PrsIn w vl L
  r : PrsIn w vr R
  sx : StIn w sx PX.steps
  sy : StIn w sy PX.steps
  ul : PrsIn w ul NL
  ur : PrsIn w ur NR
  xl : PrsIn w xl NL
  xr : PrsIn w xr NR
theorem kept_pbx (g3 g4 g8 g10 g12 g14 : Nat) (P PX : PvP) (L R NL NR : List PvP) (sv vl vr sx sy ul ur xl xr : Value) : Kept (PbX g3 g4 g8 g10 g12 g14 P PX L R NL NR sv vl vr sx sy ul ur xl xr) := fun a b m h =>
  ⟨kept_blk _ _ _ _ m.h3 h, kept_blk _ _ _ _ m.h4 h, kept_blk _ _ _ _ m.h8 h, kept_blk _ _ _ _ m.h10 h, kept_blk _ _ _ _ m.h12 h, kept_blk _ _ _ _ m.h14 h, m.st.below h, m.l.below h, m.r.below h, m.sx.below h, m.sy.below h, m.ul.below h, m.ur.below h, m.xl.below h, m.xr.below h⟩
set_option maxHeartbeats 16000000 in
theorem lbytes_any (P : PvP) (sv vl vr vb : Value) (L R : List PvP) (xs : List Int) (w : World) (he : Env w) (hg : ErrType w) (hst : StIn w sv P.steps) (hl : PrsIn w vl L) (hr : PrsIn w vr R) (hx : BytesIn w vb xs) (hxo : bytesOk xs) (hxl : xs.length ≤ 1048576)
    (hp : BdP P) (hL : ∀ p ∈ L, BdP p) (hR : ∀ p ∈ R, BdP p) (hnl : L.length ≤ 1048576) (hnr : R.length ≤ 1048576) :
    Calls Tryz.prog 3 #[.agg (prC P sv), .agg #[vl, vr], vb] w fun e w' => e = .returned (.bool true) ∧ Below w.heap.size w w' := by
  obtain ⟨va, vc, rfl⟩ := hst.len
  obtain ⟨la, lc, rfl, _⟩ := hl.len
  obtain ⟨ra, rc, rfl, _⟩ := hr.len
  obtain ⟨ba, bc, rfl, -⟩ := id hx
  obtain ⟨bn, hbn⟩ : ∃ n, n = xs.length := ⟨_, rfl⟩
  rw [← hbn] at hx ⊢
  have HBN := Lib.hid hbn
  have HE := Lib.hid he
  have HG := Lib.hid hg
  have HGL := Lib.hid (World.block_lt_of_cell? w _ hg)
  have HXO := Lib.hid hxo
  have HXL := Lib.hid hxl
  have HSU := Lib.hid (fun w' (h : Below w.heap.size w w') => pvsure_any w' (HE.out.below h HE.out.lt) (HG.out.below h) (Nat.lt_of_lt_of_le HGL.out h.size))
  have HGV := Lib.hid (fun w h => give_any P (.slice va P.steps.length vc) w h hp.2.2)
  have HGS := Lib.hid (fun w h1 h2 => gives_any (.slice la L.length lc) (.slice ra R.length rc) L R w h1 h2 (fun p h => (hL p h).2.2) (fun p h => (hR p h).2.2) hnl hnr)
  have HEN := Lib.hid (fun sv w h => pencode_any P sv w h hp)
  have HRE := Lib.hid (fun w h => dencode_any P (.slice va P.steps.length vc) w h hp)
  have HNN := Lib.hid (fun vl vr w h1 h2 => pencnone_any L R vl vr w h1 h2 hL hR hnl hnr)
  have HRN := Lib.hid (fun w h1 h2 => dencnone_any L R (.slice la L.length lc) (.slice ra R.length rc) w h1 h2 hL hR hnl hnr)
  have HLE := Lib.hid (show (encL P).length ≤ maxLen from Nat.le_trans (encL_len hp) (by unfold maxLen; omega))
  have HLN := Lib.hid (show (encN L R).length ≤ maxLen from by
    have h1 := sideL_len hL hnl
    have h2 := sideL_len hR hnr
    unfold encN maxLen
    rw [List.length_append]; omega)
  unfold GivePost at HGV
  unfold GivesPost at HGS
  unfold InPost at HRE HRN
  have M := Lib.hid ((((Kp.start w).add hst (kept_stB _ _)).add (Y := fun w' => PrsIn w' (.slice la L.length lc) L ∧ PrsIn w' (.slice ra R.length rc) R) ⟨hl, hr⟩ ((kept_prsB _ _).and (kept_prsB _ _))).add hx (kept_bytes _ _))
  clear he hg hst hl hr hx hxo hxl hp hL hR hnl hnr hbn
  go_enter Tryz.func3, Tryz.ntmps3
  go_upto_region 1 with (fail)
  have H3 := Lib.hid (heap_alloc_new w (.cells (prC P (.slice va P.steps.length vc)) 24))
  have hb1 := below_alloc w (.cells (prC P (.slice va P.steps.length vc)) 24)
  have H4 := Lib.hid (heap_alloc_new (w.alloc (.cells (prC P (.slice va P.steps.length vc)) 24)) (.cells #[.slice la L.length lc, .slice ra R.length rc] 27))
  have hb2 := below_alloc (w.alloc (.cells (prC P (.slice va P.steps.length vc)) 24)) (.cells #[.slice la L.length lc, .slice ra R.length rc] 27)
  replace H3 := Lib.hid ((hb2.block _ (bk_lt H3.out)).trans H3.out)
  replace M := Lib.hid ((((M.out.call hb1).call hb2).add (Y := fun w' => w'.heap[w.heap.size]? = some (.cells (prC P (.slice va P.steps.length vc)) 24 (0, 0))) H3.out (kept_blk _ _)).add H4.out (kept_blk _ _))
  rw [size_alloc] at M
  clear H3 H4 hb1 hb2
  generalize (w.alloc (.cells (prC P (.slice va P.steps.length vc)) 24)).alloc (.cells #[.slice la L.length lc, .slice ra R.length rc] 27) = w1 at *
  go_upto_region 3 with (refine wpList_append_bytes rfl (.tmp 16) (.tmp 17) rfl rfl w1.heap.size (.slice none 0 0) 0 [] rfl (World.ownsRow_nil _ _ _ _) (.slice ba bn bc) xs rfl M.out.x.1.1.2 (by have := HXL.out; omega) (Nat.le_refl _) ?_; intro mv w2 hmo hmg _; simp only [Nat.zero_add, List.nil_append] at hmo; obtain ⟨ma, mc, rfl⟩ := own_slice hmo; have HMO := Lib.hid (owns_in hmo (by have := HXL.out; unfold maxLen; omega)); have hb2 := (Below.refl _ _).grown hmg (Nat.le_refl _) (fun j hj => by cases hj); replace M := Lib.hid ((M.out.call hb2).add HMO.out (kept_bytes _ _)); clear hmo hmg hb2 HMO)
  have HPD := Lib.hid (fun w h => pdecode_any (.slice ma xs.length mc) xs w h HXO.out (by have := HXL.out; omega))
  have HRD := Lib.hid (fun w h => ddecode_any (.slice ba bn bc) xs w h HXO.out (by have := HXL.out; omega))
  have HPN := Lib.hid (fun w h => pdecnone_any (.slice ma xs.length mc) xs w h HXO.out (by have := HXL.out; omega))
  have HDN := Lib.hid (fun w h => ddecnone_any (.slice ba bn bc) xs w h HXO.out HXL.out)
  unfold PdPost at HPD
  unfold DdPost at HRD
  unfold DnPost at HPN
  unfold DqPost at HDN
  obtain ⟨PX, hPX⟩ : ∃ p, p = decP xs := ⟨_, rfl⟩
  obtain ⟨EX, hEX⟩ : ∃ p, p = decE xs := ⟨_, rfl⟩
  obtain ⟨NL, hNL⟩ : ∃ p, p = dnL xs := ⟨_, rfl⟩
  obtain ⟨NR, hNR⟩ : ∃ p, p = dnR xs := ⟨_, rfl⟩
  obtain ⟨EN, hEN⟩ : ∃ p, p = dnE xs := ⟨_, rfl⟩
  rw [← hPX, ← hEX] at HPD HRD
  rw [← hNL, ← hNR, ← hEN] at HPN HDN
  obtain ⟨c9, hc9⟩ : ∃ c, c = numE EX := ⟨_, rfl⟩
  obtain ⟨c13, hc13⟩ : ∃ c, c = numE EN := ⟨_, rfl⟩
  rw [← hc9] at HRD
  rw [← hc13] at HDN
  have HN9 := Lib.hid (fun w h => num8_any EX w h)
  have HN13 := Lib.hid (fun w h => num8_any EN w h)
  rw [← hc9] at HN9
  rw [← hc13] at HN13
  have HSA := Lib.hid (fun sv sw w h1 h2 => same_any PX sv sw w h1 h2)
  have HSS := Lib.hid (fun vl vr ul ur w h1 h2 h3 h4 => sames_any vl vr ul ur NL NR w h1 h2 h3 h4)
  clear hPX hEX hNL hNR hEN hc9 hc13
  go_upto_region 4 with (first
    | (go_at_call 4; (with_reducible refine (HPD.out _ M.out.x.2).mono ?_); rintro e w3 ⟨sa, sc, rfl, hst, hb⟩; have HST := Lib.hid (StIn.of_own hst); replace M := Lib.hid (M.out.call hb); clear hst hb)
    | (refine wpList_store_row rfl 31 (.tmp 8) (.tmp 22) rfl w3.heap.size (prC PX (.slice sa PX.steps.length sc)) rfl rfl 31 _ (heap_alloc_new _ _) (by kernel_rfl) rfl (prC_one _ _ _ _) ?_; rw [World.setRow_alloc_new]))
  have hb := below_alloc w3 (.cells (prC PX (.slice sa PX.steps.length sc)) 31)
  replace M := Lib.hid ((M.out.call hb).add (Y := fun w' => StIn w' (.slice sa PX.steps.length sc) PX.steps ∧ w'.heap[w3.heap.size]? = some (.cells (prC PX (.slice sa PX.steps.length sc)) 31 (0, 0))) ⟨HST.out.below hb, heap_alloc_new _ _⟩ ((kept_stB _ _).and (kept_blk _ _)))
  obtain ⟨g8, hg8⟩ : ∃ g, g = w3.heap.size := ⟨_, rfl⟩
  rw [← hg8] at M ⊢
  clear hg8 hb HST
  generalize w3.alloc (.cells (prC PX (.slice sa PX.steps.length sc)) 31) = w4 at *
  go_upto_region 5 with (first
    | (go_at_call 5; (with_reducible refine (HRD.out _ M.out.x.1.1.1.1.2).mono ?_); rintro e w5 ⟨ta, tc, rfl, hst, hb⟩; have HST := Lib.hid (StIn.of_own7 hst); replace M := Lib.hid (M.out.call hb); clear hst hb)
    | (refine wpList_store_row rfl 24 (.tmp 10) (.tmp 27) rfl w5.heap.size (prC PX (.slice ta PX.steps.length tc)) rfl rfl 24 _ (heap_alloc_new _ _) (by kernel_rfl) rfl (prC_one _ _ _ _) ?_; rw [World.setRow_alloc_new]))
  have hb := below_alloc w5 (.cells (prC PX (.slice ta PX.steps.length tc)) 24)
  replace M := Lib.hid ((M.out.call hb).add (Y := fun w' => StIn w' (.slice ta PX.steps.length tc) PX.steps ∧ w'.heap[w5.heap.size]? = some (.cells (prC PX (.slice ta PX.steps.length tc)) 24 (0, 0))) ⟨HST.out.below hb, heap_alloc_new _ _⟩ ((kept_stB _ _).and (kept_blk _ _)))
  obtain ⟨g10, hg10⟩ : ∃ g, g = w5.heap.size := ⟨_, rfl⟩
  rw [← hg10] at M ⊢
  clear hg10 hb HST
  generalize w5.alloc (.cells (prC PX (.slice ta PX.steps.length tc)) 24) = w6 at *
  go_upto_region 6 with (first
    | (go_at_call 6; (with_reducible refine (HPN.out _ M.out.x.1.1.2).mono ?_); rintro e w7 ⟨pa, pc, qa, qc, rfl, hl, hr, hb⟩; have HL := Lib.hid hl; have HR := Lib.hid hr; replace M := Lib.hid (M.out.call hb); clear hl hr hb)
    | (refine wpList_store_row rfl 40 (.tmp 12) (.tmp 32) rfl w7.heap.size #[.slice pa NL.length pc, .slice qa NR.length qc] rfl rfl 40 _ (heap_alloc_new _ _) (by kernel_rfl) rfl (by simp [Value.oneCell']) ?_; rw [World.setRow_alloc_new]))
  have hb := below_alloc w7 (.cells #[.slice pa NL.length pc, .slice qa NR.length qc] 40)
  replace M := Lib.hid ((M.out.call hb).add (Y := fun w' => (PrsIn w' (.slice pa NL.length pc) NL ∧ PrsIn w' (.slice qa NR.length qc) NR) ∧ w'.heap[w7.heap.size]? = some (.cells #[.slice pa NL.length pc, .slice qa NR.length qc] 40 (0, 0))) ⟨⟨HL.out.below hb, HR.out.below hb⟩, heap_alloc_new _ _⟩ (((kept_prsB _ _).and (kept_prsB _ _)).and (kept_blk _ _)))
  obtain ⟨g12, hg12⟩ : ∃ g, g = w7.heap.size := ⟨_, rfl⟩
  rw [← hg12] at M ⊢
  clear hg12 hb HL HR
  generalize w7.alloc (.cells #[.slice pa NL.length pc, .slice qa NR.length qc] 40) = w8 at *
  go_upto_region 7 with (first
    | (go_at_call 7; (with_reducible refine (HDN.out _ M.out.x.1.1.1.1.1.1.2).mono ?_); rintro e w9 ⟨xa, xc, ya, yc, rfl, hl, hr, hb⟩; have HL := Lib.hid hl; have HR := Lib.hid hr; replace M := Lib.hid (M.out.call hb); clear hl hr hb)
    | (refine wpList_store_row rfl 27 (.tmp 14) (.tmp 37) rfl w9.heap.size #[.slice xa NL.length xc, .slice ya NR.length yc] rfl rfl 27 _ (heap_alloc_new _ _) (by kernel_rfl) rfl (by simp [Value.oneCell']) ?_; rw [World.setRow_alloc_new]))
  have hb := below_alloc w9 (.cells #[.slice xa NL.length xc, .slice ya NR.length yc] 27)
  replace M := Lib.hid ((M.out.call hb).add (Y := fun w' => (PrsIn w' (.slice xa NL.length xc) NL ∧ PrsIn w' (.slice ya NR.length yc) NR) ∧ w'.heap[w9.heap.size]? = some (.cells #[.slice xa NL.length xc, .slice ya NR.length yc] 27 (0, 0))) ⟨⟨HL.out.below hb, HR.out.below hb⟩, heap_alloc_new _ _⟩ (((kept_prsB _ _).and (kept_prsB _ _)).and (kept_blk _ _)))
  obtain ⟨g14, hg14⟩ : ∃ g, g = w9.heap.size := ⟨_, rfl⟩
  rw [← hg14] at M ⊢
  clear hg14 hb HL HR HPD HRD HPN HDN
  generalize w9.alloc (.cells #[.slice xa NL.length xc, .slice ya NR.length yc] 27) = w10 at *
  obtain ⟨g3, hg3⟩ : ∃ g, g = w.heap.size := ⟨_, rfl⟩
  obtain ⟨g4, hg4⟩ : ∃ g, g = w.heap.size + 1 := ⟨_, rfl⟩
  have KX := Lib.hid (kept_pbx g3 g4 g8 g10 g12 g14 P PX L R NL NR (.slice va P.steps.length vc) (.slice la L.length lc) (.slice ra R.length rc) (.slice sa PX.steps.length sc) (.slice ta PX.steps.length tc) (.slice pa NL.length pc) (.slice qa NR.length qc) (.slice xa NL.length xc) (.slice ya NR.length yc))
  have M2 := Lib.hid (show Kp w w10 (PbX g3 g4 g8 g10 g12 g14 P PX L R NL NR (.slice va P.steps.length vc) (.slice la L.length lc) (.slice ra R.length rc) (.slice sa PX.steps.length sc) (.slice ta PX.steps.length tc) (.slice pa NL.length pc) (.slice qa NR.length qc) (.slice xa NL.length xc) (.slice ya NR.length yc)) from by
    obtain ⟨mb, mx, -⟩ := M.out
    obtain ⟨⟨⟨⟨⟨⟨⟨⟨⟨⟨_, m1⟩, m2⟩, m3⟩, m4⟩, m5⟩, m6⟩, m7⟩, m8⟩, m9⟩, m10⟩ := mx
    exact ⟨mb, ⟨by rw [hg3]; exact m4, by rw [hg4]; exact m5, m7.2, m8.2, m9.2, m10.2, m1, m2.1, m2.2, m7.1, m8.1, m9.1.1, m9.1.2, m10.1.1, m10.1.2⟩, KX.out⟩)
  rw [← hg4, ← hg3]
  clear M hg3 hg4
  have M := M2
  clear M2
  obtain ⟨X0, hX0⟩ : ∃ X, X = PbX g3 g4 g8 g10 g12 g14 P PX L R NL NR (.slice va P.steps.length vc) (.slice la L.length lc) (.slice ra R.length rc) (.slice sa PX.steps.length sc) (.slice ta PX.steps.length tc) (.slice pa NL.length pc) (.slice qa NR.length qc) (.slice xa NL.length xc) (.slice ya NR.length yc) := ⟨_, rfl⟩
  have HX0 := Lib.hid (show ∀ w, X0 w → PbX g3 g4 g8 g10 g12 g14 P PX L R NL NR (.slice va P.steps.length vc) (.slice la L.length lc) (.slice ra R.length rc) (.slice sa PX.steps.length sc) (.slice ta PX.steps.length tc) (.slice pa NL.length pc) (.slice qa NR.length qc) (.slice xa NL.length xc) (.slice ya NR.length yc) w from fun w h => by rw [hX0] at h; exact h)
  rw [← hX0] at M KX
  clear hX0
  obtain ⟨KT, hKT⟩ : ∃ k, k = strOfNums (encL P) := ⟨_, rfl⟩
  obtain ⟨VT, hVT⟩ : ∃ k, k = strOfNums (encN L R) := ⟨_, rfl⟩
  have HKT := Lib.hid hKT
  have HVT := Lib.hid hVT
  have hk1 : (KT.toList == KT.toList) = true := by simp
  have hv1 : (VT.toList == VT.toList) = true := by simp
  clear hKT hVT
  refine wp_region_T (fun w' => Kp w w' X0) [0, 1, 2, 3, 4, 5, 6, 7, 8, 9, 10, 11, 12, 13, 14, 15, 16, 17, 18, 19, 20, 21, 22, 23, 24, 25, 26, 27, 28, 29, 30, 31, 32, 33, 34, 35, 36, 37, 38, 39, 40, 41, 42, 43] (by kernel_rfl) ?_
  replace M := Lib.hid (M.out.call (Below.refl _ _).drew)
  generalize w10.drew = w11 at *
  refine anyT_take [] (i := 0) (v := .agg (prC P (.slice va P.steps.length vc))) rfl (by kernel_rfl) (by kernel_rfl) (by kernel_rfl) (fun _ _ _ h => h) (by kernel_rfl) (row_yields' (by rfl) 24 (.tmp 3) rfl g3 0 rfl _ _ (fun _ h => row_range (HX0.out _ (h.x)).h3) Tryz.underlying24 rfl (by kernel_rfl)) M.out ?_
  try simp only [List.getElem_toArray, List.getElem_cons_succ, List.getElem_cons_zero, Act.put, List.setIfInBounds_toArray, List.set_cons_zero, List.set_cons_succ]
  refine anyT_take [] (i := 4) (v := .agg (prC P (.slice va P.steps.length vc))) rfl (by kernel_rfl) (by kernel_rfl) (by kernel_rfl) (fun _ _ _ h => h) (by kernel_rfl) (row_yields' (by rfl) 24 (.tmp 3) rfl g3 0 rfl _ _ (fun _ h => row_range (HX0.out _ (h.x)).h3) Tryz.underlying24 rfl (by kernel_rfl)) M.out ?_
  try simp only [List.getElem_toArray, List.getElem_cons_succ, List.getElem_cons_zero, Act.put, List.setIfInBounds_toArray, List.set_cons_zero, List.set_cons_succ]
  refine anyT_one (i := 1) (by kernel_rfl) rfl (fun K hK => ?_)
  rw [if_pos (by rfl)]
  try simp only [List.getElem_toArray, List.getElem_cons_succ, List.getElem_cons_zero]
  (go_simp; (with_reducible refine (HGV.out _ (HX0.out _ (M.out.x)).st).mono ?_); rintro e w12 ⟨ua, uc, rfl, hown, hb⟩; have HOW := Lib.hid (StIn.of_own hown); clear hown; replace M := Lib.hid (M.out.call hb); clear hb)
  refine hK _ _ (fun _ => M.out) ?_
  clear hK K
  try simp only [List.getElem_toArray, List.getElem_cons_succ, List.getElem_cons_zero, Act.put, List.setIfInBounds_toArray, List.set_cons_zero, List.set_cons_succ]
  refine anyT_one (i := 2) (by kernel_rfl) rfl (fun K hK => ?_)
  rw [if_pos (by rfl)]
  try simp only [List.getElem_toArray, List.getElem_cons_succ, List.getElem_cons_zero]
  (go_simp; (with_reducible refine (HEN.out _ _ HOW.out).mono ?_); rintro e w13 ⟨v41, rfl, hown, hb⟩; obtain ⟨a41, c41, rfl⟩ := own_slice hown; have HB41 := Lib.hid (owns_in hown HLE.out); clear hown HOW; replace M := Lib.hid (M.out.call hb); clear hb)
  refine hK _ _ (fun _ => M.out) ?_
  clear hK K
  try simp only [List.getElem_toArray, List.getElem_cons_succ, List.getElem_cons_zero, Act.put, List.setIfInBounds_toArray, List.set_cons_zero, List.set_cons_succ]
  replace M := Lib.hid (M.out.add HB41.out (kept_bytes _ _))
  refine anyT_kp (Y := fun w => BytesIn w (.slice a41 (encL P).length c41) (encL P)) KX.out ?_
  replace KX := Lib.hid (KX.out.and (kept_bytes (.slice a41 (encL P).length c41) (encL P)))
  clear HB41
  refine anyT_take [] (i := 3) (v := .string KT) rfl (by kernel_rfl) (by kernel_rfl) (by kernel_rfl) (fun _ _ _ h => h) (by kernel_rfl) (Or.inl ⟨by rfl, fun w' hS => by have c := conv_bytes w' _ _ (hS.x.2); rw [← HKT.out] at c; go_simp⟩) M.out ?_
  try simp only [List.getElem_toArray, List.getElem_cons_succ, List.getElem_cons_zero, Act.put, List.setIfInBounds_toArray, List.set_cons_zero, List.set_cons_succ]
  refine anyT_one (i := 5) (by kernel_rfl) rfl (fun K hK => ?_)
  rw [if_pos (by rfl)]
  try simp only [List.getElem_toArray, List.getElem_cons_succ, List.getElem_cons_zero]
  (go_simp; (with_reducible refine (HRE.out _ (HX0.out _ (M.out.x.1)).st).mono ?_); rintro e w14 ⟨v44, rfl, hby, hb⟩; obtain ⟨a44, c44, rfl, -⟩ := id hby; have HB44 := Lib.hid hby; clear hby; replace M := Lib.hid (M.out.call hb); clear hb)
  refine hK _ _ (fun _ => M.out) ?_
  clear hK K
  try simp only [List.getElem_toArray, List.getElem_cons_succ, List.getElem_cons_zero, Act.put, List.setIfInBounds_toArray, List.set_cons_zero, List.set_cons_succ]
  replace M := Lib.hid (M.out.add HB44.out (kept_bytes _ _))
  refine anyT_kp (Y := fun w => BytesIn w (.slice a44 (encL P).length c44) (encL P)) KX.out ?_
  replace KX := Lib.hid (KX.out.and (kept_bytes (.slice a44 (encL P).length c44) (encL P)))
  clear HB44
  refine anyT_take [] (i := 6) (v := .string KT) rfl (by kernel_rfl) (by kernel_rfl) (by kernel_rfl) (fun _ _ _ h => h) (by kernel_rfl) (Or.inl ⟨by rfl, fun w' hS => by have c := conv_bytes w' _ _ (hS.x.2); rw [← HKT.out] at c; go_simp⟩) M.out ?_
  try simp only [List.getElem_toArray, List.getElem_cons_succ, List.getElem_cons_zero, Act.put, List.setIfInBounds_toArray, List.set_cons_zero, List.set_cons_succ]
  refine anyT_take [] (i := 7) (v := .bool true) rfl (by kernel_rfl) (by kernel_rfl) (by kernel_rfl) (fun _ _ _ h => h) (by kernel_rfl) (Or.inl ⟨by rfl, fun w' _ => by go_simp⟩) M.out ?_
  try simp only [List.getElem_toArray, List.getElem_cons_succ, List.getElem_cons_zero, Act.put, List.setIfInBounds_toArray, List.set_cons_zero, List.set_cons_succ]
  refine anyT_take [] (i := 8) (v := .bool true) rfl (by kernel_rfl) (by kernel_rfl) (by kernel_rfl) (fun _ _ _ h => h) (by kernel_rfl) (Or.inl ⟨by rfl, fun w' _ => by go_simp⟩) M.out ?_
  try simp only [List.getElem_toArray, List.getElem_cons_succ, List.getElem_cons_zero, Act.put, List.setIfInBounds_toArray, List.set_cons_zero, List.set_cons_succ]
  refine anyT_take [] (i := 9) (v := .agg #[.slice la L.length lc, .slice ra R.length rc]) rfl (by kernel_rfl) (by kernel_rfl) (by kernel_rfl) (fun _ _ _ h => h) (by kernel_rfl) (row_yields' (by rfl) 27 (.tmp 4) rfl g4 0 rfl _ _ (fun _ h => row_range (HX0.out _ (h.x.1.1)).h4) Tryz.underlying27 rfl (by kernel_rfl)) M.out ?_
  try simp only [List.getElem_toArray, List.getElem_cons_succ, List.getElem_cons_zero, Act.put, List.setIfInBounds_toArray, List.set_cons_zero, List.set_cons_succ]
  refine anyT_take [] (i := 13) (v := .agg #[.slice la L.length lc, .slice ra R.length rc]) rfl (by kernel_rfl) (by kernel_rfl) (by kernel_rfl) (fun _ _ _ h => h) (by kernel_rfl) (row_yields' (by rfl) 27 (.tmp 4) rfl g4 0 rfl _ _ (fun _ h => row_range (HX0.out _ (h.x.1.1)).h4) Tryz.underlying27 rfl (by kernel_rfl)) M.out ?_
  try simp only [List.getElem_toArray, List.getElem_cons_succ, List.getElem_cons_zero, Act.put, List.setIfInBounds_toArray, List.set_cons_zero, List.set_cons_succ]
  refine anyT_one (i := 10) (by kernel_rfl) rfl (fun K hK => ?_)
  rw [if_pos (by rfl)]
  try simp only [List.getElem_toArray, List.getElem_cons_succ, List.getElem_cons_zero]
  (go_simp; (with_reducible refine (HGS.out _ (HX0.out _ (M.out.x.1.1)).l (HX0.out _ (M.out.x.1.1)).r).mono ?_); rintro e w15 ⟨a1, c1, a2, c2, rfl, hl, hr, hb⟩; have HL := Lib.hid hl; have HR := Lib.hid hr; clear hl hr; replace M := Lib.hid (M.out.call hb); clear hb)
  refine hK _ _ (fun _ => M.out) ?_
  clear hK K
  try simp only [List.getElem_toArray, List.getElem_cons_succ, List.getElem_cons_zero, Act.put, List.setIfInBounds_toArray, List.set_cons_zero, List.set_cons_succ]
  refine anyT_one (i := 11) (by kernel_rfl) rfl (fun K hK => ?_)
  rw [if_pos (by rfl)]
  try simp only [List.getElem_toArray, List.getElem_cons_succ, List.getElem_cons_zero]
  (go_simp; (with_reducible refine (HNN.out _ _ _ HL.out HR.out).mono ?_); rintro e w16 ⟨v50, rfl, hown, hb⟩; obtain ⟨a50, c50, rfl⟩ := own_slice hown; have HB50 := Lib.hid (owns_in hown HLN.out); clear hown HL HR; replace M := Lib.hid (M.out.call hb); clear hb)
  refine hK _ _ (fun _ => M.out) ?_
  clear hK K
  try simp only [List.getElem_toArray, List.getElem_cons_succ, List.getElem_cons_zero, Act.put, List.setIfInBounds_toArray, List.set_cons_zero, List.set_cons_succ]
  replace M := Lib.hid (M.out.add HB50.out (kept_bytes _ _))
  refine anyT_kp (Y := fun w => BytesIn w (.slice a50 (encN L R).length c50) (encN L R)) KX.out ?_
  replace KX := Lib.hid (KX.out.and (kept_bytes (.slice a50 (encN L R).length c50) (encN L R)))
  clear HB50
  refine anyT_take [] (i := 12) (v := .string VT) rfl (by kernel_rfl) (by kernel_rfl) (by kernel_rfl) (fun _ _ _ h => h) (by kernel_rfl) (Or.inl ⟨by rfl, fun w' hS => by have c := conv_bytes w' _ _ (hS.x.2); rw [← HVT.out] at c; go_simp⟩) M.out ?_
  try simp only [List.getElem_toArray, List.getElem_cons_succ, List.getElem_cons_zero, Act.put, List.setIfInBounds_toArray, List.set_cons_zero, List.set_cons_succ]
  refine anyT_one (i := 14) (by kernel_rfl) rfl (fun K hK => ?_)
  rw [if_pos (by rfl)]
  try simp only [List.getElem_toArray, List.getElem_cons_succ, List.getElem_cons_zero]
  (go_simp; (with_reducible refine (HRN.out _ (HX0.out _ (M.out.x.1.1.1)).l (HX0.out _ (M.out.x.1.1.1)).r).mono ?_); rintro e w17 ⟨v53, rfl, hby, hb⟩; obtain ⟨a53, c53, rfl, -⟩ := id hby; have HB53 := Lib.hid hby; clear hby; replace M := Lib.hid (M.out.call hb); clear hb)
  refine hK _ _ (fun _ => M.out) ?_
  clear hK K
  try simp only [List.getElem_toArray, List.getElem_cons_succ, List.getElem_cons_zero, Act.put, List.setIfInBounds_toArray, List.set_cons_zero, List.set_cons_succ]
  replace M := Lib.hid (M.out.add HB53.out (kept_bytes _ _))
  refine anyT_kp (Y := fun w => BytesIn w (.slice a53 (encN L R).length c53) (encN L R)) KX.out ?_
  replace KX := Lib.hid (KX.out.and (kept_bytes (.slice a53 (encN L R).length c53) (encN L R)))
  clear HB53
  refine anyT_take [] (i := 15) (v := .string VT) rfl (by kernel_rfl) (by kernel_rfl) (by kernel_rfl) (fun _ _ _ h => h) (by kernel_rfl) (Or.inl ⟨by rfl, fun w' hS => by have c := conv_bytes w' _ _ (hS.x.2); rw [← HVT.out] at c; go_simp⟩) M.out ?_
  try simp only [List.getElem_toArray, List.getElem_cons_succ, List.getElem_cons_zero, Act.put, List.setIfInBounds_toArray, List.set_cons_zero, List.set_cons_succ]
  refine anyT_take [] (i := 16) (v := .bool true) rfl (by kernel_rfl) (by kernel_rfl) (by kernel_rfl) (fun _ _ _ h => h) (by kernel_rfl) (Or.inl ⟨by rfl, fun w' _ => by go_simp⟩) M.out ?_
  try simp only [List.getElem_toArray, List.getElem_cons_succ, List.getElem_cons_zero, Act.put, List.setIfInBounds_toArray, List.set_cons_zero, List.set_cons_succ]
  refine anyT_take [] (i := 17) (v := .bool true) rfl (by kernel_rfl) (by kernel_rfl) (by kernel_rfl) (fun _ _ _ h => h) (by kernel_rfl) (Or.inl ⟨by rfl, fun w' _ => by go_simp⟩) M.out ?_
  try simp only [List.getElem_toArray, List.getElem_cons_succ, List.getElem_cons_zero, Act.put, List.setIfInBounds_toArray, List.set_cons_zero, List.set_cons_succ]
  refine anyT_take [] (i := 18) (v := .bool true) rfl (by kernel_rfl) (by kernel_rfl) (by kernel_rfl) (fun _ _ _ h => h) (by kernel_rfl) (Or.inl ⟨by rfl, fun w' _ => by go_simp⟩) M.out ?_
  try simp only [List.getElem_toArray, List.getElem_cons_succ, List.getElem_cons_zero, Act.put, List.setIfInBounds_toArray, List.set_cons_zero, List.set_cons_succ]
  refine anyT_take [] (i := 19) (v := .agg (prC PX (.slice sa PX.steps.length sc))) rfl (by kernel_rfl) (by kernel_rfl) (by kernel_rfl) (fun _ _ _ h => h) (by kernel_rfl) (row_yields' (by rfl) 31 (.tmp 8) rfl g8 0 rfl _ _ (fun _ h => row_range (HX0.out _ (h.x.1.1.1.1)).h8) Tryz.underlying31 rfl (by kernel_rfl)) M.out ?_
  try simp only [List.getElem_toArray, List.getElem_cons_succ, List.getElem_cons_zero, Act.put, List.setIfInBounds_toArray, List.set_cons_zero, List.set_cons_succ]
  refine anyT_take [] (i := 20) (v := .agg (prC PX (.slice ta PX.steps.length tc))) rfl (by kernel_rfl) (by kernel_rfl) (by kernel_rfl) (fun _ _ _ h => h) (by kernel_rfl) (row_yields' (by rfl) 24 (.tmp 10) rfl g10 0 rfl _ _ (fun _ h => row_range (HX0.out _ (h.x.1.1.1.1)).h10) Tryz.underlying24 rfl (by kernel_rfl)) M.out ?_
  try simp only [List.getElem_toArray, List.getElem_cons_succ, List.getElem_cons_zero, Act.put, List.setIfInBounds_toArray, List.set_cons_zero, List.set_cons_succ]
  refine anyT_one (i := 21) (by kernel_rfl) rfl (fun K hK => ?_)
  rw [if_pos (by rfl)]
  try simp only [List.getElem_toArray, List.getElem_cons_succ, List.getElem_cons_zero]
  (go_simp; (with_reducible refine (HSA.out _ _ _ (HX0.out _ (M.out.x.1.1.1.1)).sx (HX0.out _ (M.out.x.1.1.1.1)).sy).mono ?_); rintro e w18 ⟨rfl, hb⟩;  replace M := Lib.hid (M.out.call hb); clear hb)
  refine hK _ _ (fun _ => M.out) ?_
  clear hK K
  try simp only [List.getElem_toArray, List.getElem_cons_succ, List.getElem_cons_zero, Act.put, List.setIfInBounds_toArray, List.set_cons_zero, List.set_cons_succ]
  refine anyT_take [] (i := 22) (v := .bool true) rfl (by kernel_rfl) (by kernel_rfl) (by kernel_rfl) (fun _ _ _ h => h) (by kernel_rfl) (Or.inl ⟨by rfl, fun w' _ => by go_simp⟩) M.out ?_
  try simp only [List.getElem_toArray, List.getElem_cons_succ, List.getElem_cons_zero, Act.put, List.setIfInBounds_toArray, List.set_cons_zero, List.set_cons_succ]
  refine anyT_take [] (i := 23) (v := .bool true) rfl (by kernel_rfl) (by kernel_rfl) (by kernel_rfl) (fun _ _ _ h => h) (by kernel_rfl) (Or.inl ⟨by rfl, fun w' _ => by go_simp⟩) M.out ?_
  try simp only [List.getElem_toArray, List.getElem_cons_succ, List.getElem_cons_zero, Act.put, List.setIfInBounds_toArray, List.set_cons_zero, List.set_cons_succ]
  refine anyT_take [] (i := 24) (v := errV EX) rfl (by kernel_rfl) (by kernel_rfl) (by kernel_rfl) (fun _ _ _ h => h) (by kernel_rfl) (Or.inl ⟨by rfl, fun w' _ => by go_simp⟩) M.out ?_
  try simp only [List.getElem_toArray, List.getElem_cons_succ, List.getElem_cons_zero, Act.put, List.setIfInBounds_toArray, List.set_cons_zero, List.set_cons_succ]
  refine anyT_take [] (i := 26) (v := .int .i64 c9) rfl (by kernel_rfl) (by kernel_rfl) (by kernel_rfl) (fun _ _ _ h => h) (by kernel_rfl) (Or.inl ⟨by rfl, fun w' _ => by go_simp⟩) M.out ?_
  try simp only [List.getElem_toArray, List.getElem_cons_succ, List.getElem_cons_zero, Act.put, List.setIfInBounds_toArray, List.set_cons_zero, List.set_cons_succ]
  refine anyT_one (i := 25) (by kernel_rfl) rfl (fun K hK => ?_)
  rw [if_pos (by rfl)]
  try simp only [List.getElem_toArray, List.getElem_cons_succ, List.getElem_cons_zero]
  (go_simp; (with_reducible refine (HN9.out _ (HG.out.below M.out.below)).mono ?_); rintro e w19 ⟨rfl, hb⟩;  replace M := Lib.hid (M.out.call hb); clear hb)
  refine hK _ _ (fun _ => M.out) ?_
  clear hK K
  try simp only [List.getElem_toArray, List.getElem_cons_succ, List.getElem_cons_zero, Act.put, List.setIfInBounds_toArray, List.set_cons_zero, List.set_cons_succ]
  refine anyT_take [] (i := 27) (v := .bool true) rfl (by kernel_rfl) (by kernel_rfl) (by kernel_rfl) (fun _ _ _ h => h) (by kernel_rfl) (Or.inl ⟨by rfl, fun w' _ => by go_simp⟩) M.out ?_
  try simp only [List.getElem_toArray, List.getElem_cons_succ, List.getElem_cons_zero, Act.put, List.setIfInBounds_toArray, List.set_cons_zero, List.set_cons_succ]
  refine anyT_take [] (i := 28) (v := .bool true) rfl (by kernel_rfl) (by kernel_rfl) (by kernel_rfl) (fun _ _ _ h => h) (by kernel_rfl) (Or.inl ⟨by rfl, fun w' _ => by go_simp⟩) M.out ?_
  try simp only [List.getElem_toArray, List.getElem_cons_succ, List.getElem_cons_zero, Act.put, List.setIfInBounds_toArray, List.set_cons_zero, List.set_cons_succ]
  refine anyT_take [] (i := 29) (v := .bool true) rfl (by kernel_rfl) (by kernel_rfl) (by kernel_rfl) (fun _ _ _ h => h) (by kernel_rfl) (Or.inl ⟨by rfl, fun w' _ => by go_simp⟩) M.out ?_
  try simp only [List.getElem_toArray, List.getElem_cons_succ, List.getElem_cons_zero, Act.put, List.setIfInBounds_toArray, List.set_cons_zero, List.set_cons_succ]
  refine anyT_take [] (i := 30) (v := .agg #[.slice pa NL.length pc, .slice qa NR.length qc]) rfl (by kernel_rfl) (by kernel_rfl) (by kernel_rfl) (fun _ _ _ h => h) (by kernel_rfl) (row_yields' (by rfl) 40 (.tmp 12) rfl g12 0 rfl _ _ (fun _ h => row_range (HX0.out _ (h.x.1.1.1.1)).h12) Tryz.underlying40 rfl (by kernel_rfl)) M.out ?_
  try simp only [List.getElem_toArray, List.getElem_cons_succ, List.getElem_cons_zero, Act.put, List.setIfInBounds_toArray, List.set_cons_zero, List.set_cons_succ]
  refine anyT_take [] (i := 31) (v := .agg #[.slice xa NL.length xc, .slice ya NR.length yc]) rfl (by kernel_rfl) (by kernel_rfl) (by kernel_rfl) (fun _ _ _ h => h) (by kernel_rfl) (row_yields' (by rfl) 27 (.tmp 14) rfl g14 0 rfl _ _ (fun _ h => row_range (HX0.out _ (h.x.1.1.1.1)).h14) Tryz.underlying27 rfl (by kernel_rfl)) M.out ?_
  try simp only [List.getElem_toArray, List.getElem_cons_succ, List.getElem_cons_zero, Act.put, List.setIfInBounds_toArray, List.set_cons_zero, List.set_cons_succ]
  refine anyT_one (i := 32) (by kernel_rfl) rfl (fun K hK => ?_)
  rw [if_pos (by rfl)]
  try simp only [List.getElem_toArray, List.getElem_cons_succ, List.getElem_cons_zero]
  (go_simp; (with_reducible refine (HSS.out _ _ _ _ _ (HX0.out _ (M.out.x.1.1.1.1)).ul (HX0.out _ (M.out.x.1.1.1.1)).ur (HX0.out _ (M.out.x.1.1.1.1)).xl (HX0.out _ (M.out.x.1.1.1.1)).xr).mono ?_); rintro e w20 ⟨rfl, hb⟩;  replace M := Lib.hid (M.out.call hb); clear hb)
  refine hK _ _ (fun _ => M.out) ?_
  clear hK K
  try simp only [List.getElem_toArray, List.getElem_cons_succ, List.getElem_cons_zero, Act.put, List.setIfInBounds_toArray, List.set_cons_zero, List.set_cons_succ]
  refine anyT_take [] (i := 33) (v := .bool true) rfl (by kernel_rfl) (by kernel_rfl) (by kernel_rfl) (fun _ _ _ h => h) (by kernel_rfl) (Or.inl ⟨by rfl, fun w' _ => by go_simp⟩) M.out ?_
  try simp only [List.getElem_toArray, List.getElem_cons_succ, List.getElem_cons_zero, Act.put, List.setIfInBounds_toArray, List.set_cons_zero, List.set_cons_succ]
  refine anyT_take [] (i := 34) (v := .bool true) rfl (by kernel_rfl) (by kernel_rfl) (by kernel_rfl) (fun _ _ _ h => h) (by kernel_rfl) (Or.inl ⟨by rfl, fun w' _ => by go_simp⟩) M.out ?_
  try simp only [List.getElem_toArray, List.getElem_cons_succ, List.getElem_cons_zero, Act.put, List.setIfInBounds_toArray, List.set_cons_zero, List.set_cons_succ]
  refine anyT_take [] (i := 35) (v := errV EN) rfl (by kernel_rfl) (by kernel_rfl) (by kernel_rfl) (fun _ _ _ h => h) (by kernel_rfl) (Or.inl ⟨by rfl, fun w' _ => by go_simp⟩) M.out ?_
  try simp only [List.getElem_toArray, List.getElem_cons_succ, List.getElem_cons_zero, Act.put, List.setIfInBounds_toArray, List.set_cons_zero, List.set_cons_succ]
  refine anyT_take [] (i := 37) (v := .int .i64 c13) rfl (by kernel_rfl) (by kernel_rfl) (by kernel_rfl) (fun _ _ _ h => h) (by kernel_rfl) (Or.inl ⟨by rfl, fun w' _ => by go_simp⟩) M.out ?_
  try simp only [List.getElem_toArray, List.getElem_cons_succ, List.getElem_cons_zero, Act.put, List.setIfInBounds_toArray, List.set_cons_zero, List.set_cons_succ]
  refine anyT_one (i := 36) (by kernel_rfl) rfl (fun K hK => ?_)
  rw [if_pos (by rfl)]
  try simp only [List.getElem_toArray, List.getElem_cons_succ, List.getElem_cons_zero]
  (go_simp; (with_reducible refine (HN13.out _ (HG.out.below M.out.below)).mono ?_); rintro e w21 ⟨rfl, hb⟩;  replace M := Lib.hid (M.out.call hb); clear hb)
  refine hK _ _ (fun _ => M.out) ?_
  clear hK K
  try simp only [List.getElem_toArray, List.getElem_cons_succ, List.getElem_cons_zero, Act.put, List.setIfInBounds_toArray, List.set_cons_zero, List.set_cons_succ]
  refine anyT_take [] (i := 38) (v := .bool true) rfl (by kernel_rfl) (by kernel_rfl) (by kernel_rfl) (fun _ _ _ h => h) (by kernel_rfl) (Or.inl ⟨by rfl, fun w' _ => by go_simp⟩) M.out ?_
  try simp only [List.getElem_toArray, List.getElem_cons_succ, List.getElem_cons_zero, Act.put, List.setIfInBounds_toArray, List.set_cons_zero, List.set_cons_succ]
  refine anyT_take [] (i := 39) (v := .bool true) rfl (by kernel_rfl) (by kernel_rfl) (by kernel_rfl) (fun _ _ _ h => h) (by kernel_rfl) (Or.inl ⟨by rfl, fun w' _ => by go_simp⟩) M.out ?_
  try simp only [List.getElem_toArray, List.getElem_cons_succ, List.getElem_cons_zero, Act.put, List.setIfInBounds_toArray, List.set_cons_zero, List.set_cons_succ]
  refine anyT_take [] (i := 40) (v := .bool true) rfl (by kernel_rfl) (by kernel_rfl) (by kernel_rfl) (fun _ _ _ h => h) (by kernel_rfl) (Or.inl ⟨by rfl, fun w' _ => by go_simp⟩) M.out ?_
  try simp only [List.getElem_toArray, List.getElem_cons_succ, List.getElem_cons_zero, Act.put, List.setIfInBounds_toArray, List.set_cons_zero, List.set_cons_succ]
  refine anyT_one (i := 41) (by kernel_rfl) rfl (fun K hK => ?_)
  rw [if_pos (by rfl)]
  try simp only [List.getElem_toArray, List.getElem_cons_succ, List.getElem_cons_zero]
  (go_simp; (with_reducible refine (HSU.out _ M.out.below).mono ?_); rintro e w22 ⟨rfl, hb⟩;  replace M := Lib.hid (M.out.call hb); clear hb)
  refine hK _ _ (fun _ => M.out) ?_
  clear hK K
  try simp only [List.getElem_toArray, List.getElem_cons_succ, List.getElem_cons_zero, Act.put, List.setIfInBounds_toArray, List.set_cons_zero, List.set_cons_succ]
  refine anyT_take [] (i := 42) (v := .bool true) rfl (by kernel_rfl) (by kernel_rfl) (by kernel_rfl) (fun _ _ _ h => h) (by kernel_rfl) (Or.inl ⟨by rfl, fun w' _ => by go_simp⟩) M.out ?_
  try simp only [List.getElem_toArray, List.getElem_cons_succ, List.getElem_cons_zero, Act.put, List.setIfInBounds_toArray, List.set_cons_zero, List.set_cons_succ]
  refine anyT_take [] (i := 43) (v := .bool true) rfl (by kernel_rfl) (by kernel_rfl) (by kernel_rfl) (fun _ _ _ h => h) (by kernel_rfl) (Or.inl ⟨by rfl, fun w' _ => by go_simp⟩) M.out ?_
  try simp only [List.getElem_toArray, List.getElem_cons_succ, List.getElem_cons_zero, Act.put, List.setIfInBounds_toArray, List.set_cons_zero, List.set_cons_succ]
  refine anyT_done (by kernel_rfl) ?_ _
  go_wp2_with (fail)
  go_ret
  exact ⟨rfl, M.out.below⟩
end Go.Proofs.YtabflppnecemkaaGreatDoor

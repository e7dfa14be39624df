/- Part 21 of the proof. -/
import Derived.Test.YtadolfacjolbkaaDoorPe16
import Derived.Test.YtadolfacjolbkaaDoorPe18
import Derived.Test.YtadolfacjolbkaaDoorPe20
namespace Go.Proofs.YtadolfacjolbkaaDoor
set_option linter.unusedVariables false
set_option linter.unusedSimpArgs false
open Go.RowKit
set_option maxRecDepth 100000
set_option linter.unusedSimpArgs false
set_option linter.unusedVariables false
theorem two_start {w : World} {xs ys : Array Value} {X Y : TypeId} : ((w.alloc (.cells xs X)).alloc (.cells ys Y)).heap[w.heap.size]? = some (.cells xs X (0, 0)) ∧ ((w.alloc (.cells xs X)).alloc (.cells ys Y)).heap[w.heap.size + 1]? = some (.cells ys Y (0, 0)) ∧ Below w.heap.size w ((w.alloc (.cells xs X)).alloc (.cells ys Y)) := by
  refine ⟨?_, ?_, ((Below.refl _ w).alloc (Nat.le_refl _) _).alloc (by simp) _⟩
  · rw [heap_alloc_old _ _ (by simp), heap_alloc_new]
  · have := heap_alloc_new (w.alloc (.cells xs X)) (.cells ys Y)
    rw [size_alloc] at this; exact this
theorem st_in_range {w : World} {v : Value} {l : List AvS} {i : Nat} {s : AvS} (h : StIn w v l) (hi : l[i]? = some s) : ∃ ab ao c, v = .slice (some ⟨ab, ao, none⟩) l.length c ∧ ab < w.heap.size ∧ w.rangeAt ab (ao + i * 34) s.cells := by
  obtain ⟨a, c, rfl⟩ := h.len
  obtain ⟨ab, ao, rfl, hl, hr⟩ := h.at i s hi
  exact ⟨ab, ao, c, rfl, hl, hr⟩
structure SaM (w0 w : World) (P : PvP) (sv sw : Value) : Prop where
  below : Below w0.heap.size w0 w
  h2 : w.heap[w0.heap.size]? = some (.cells (prC P sv) 58 (0, 0))
  h3 : w.heap[w0.heap.size + 1]? = some (.cells (prC P sw) 51 (0, 0))
  sv : StIn w sv P.steps
  sw : StIn w sw P.steps
theorem SaM.call {w0 w w' : World} {P : PvP} {sv sw : Value} (m : SaM w0 w P sv sw) (h : Below w.heap.size w w') : SaM w0 w' P sv sw :=
  ⟨m.below.trans (h.mono m.below.size), (h.block _ (bk_lt m.h2)).trans m.h2, (h.block _ (bk_lt m.h3)).trans m.h3, m.sv.below h, m.sw.below h⟩
theorem saM_start {w : World} {P : PvP} {sv sw : Value} (h1 : StIn w sv P.steps) (h2 : StIn w sw P.steps) : SaM w ((w.alloc (.cells (prC P sv) 58)).alloc (.cells (prC P sw) 51)) P sv sw := by
  obtain ⟨a, b, c⟩ := two_start (w := w) (xs := prC P sv) (ys := prC P sw) (X := 58) (Y := 51)
  exact ⟨c, a, b, h1.below c, h2.below c⟩
structure SsM (w0 w : World) (vl vr ul ur : Value) (L R : List PvP) : Prop where
  below : Below w0.heap.size w0 w
  h2 : w.heap[w0.heap.size]? = some (.cells #[vl, vr] 64 (0, 0))
  h3 : w.heap[w0.heap.size + 1]? = some (.cells #[ul, ur] 54 (0, 0))
  vl : PrsIn w vl L
  vr : PrsIn w vr R
  ul : PrsIn w ul L
  ur : PrsIn w ur R
theorem SsM.call {w0 w w' : World} {vl vr ul ur : Value} {L R : List PvP} (m : SsM w0 w vl vr ul ur L R) (h : Below w.heap.size w w') : SsM w0 w' vl vr ul ur L R :=
  ⟨m.below.trans (h.mono m.below.size), (h.block _ (bk_lt m.h2)).trans m.h2, (h.block _ (bk_lt m.h3)).trans m.h3, m.vl.below h, m.vr.below h, m.ul.below h, m.ur.below h⟩
theorem ssM_start {w : World} {vl vr ul ur : Value} {L R : List PvP} (h1 : PrsIn w vl L) (h2 : PrsIn w vr R) (h3 : PrsIn w ul L) (h4 : PrsIn w ur R) : SsM w ((w.alloc (.cells #[vl, vr] 64)).alloc (.cells #[ul, ur] 54)) vl vr ul ur L R := by
  obtain ⟨a, b, c⟩ := two_start (w := w) (xs := #[vl, vr]) (ys := #[ul, ur]) (X := 64) (Y := 54)
  exact ⟨c, a, b, h1.below c, h2.below c, h3.below c, h4.below c⟩
theorem pr_in_range {w : World} {v : Value} {l : List PvP} {i : Nat} {p : PvP} (h : PrsIn w v l) (hi : l[i]? = some p) : ∃ ab ao c sa sc, v = .slice (some ⟨ab, ao, none⟩) l.length c ∧ w.rangeAt ab (ao + i * 3) (prC p (.slice sa p.steps.length sc)).toList ∧ StIn w (.slice sa p.steps.length sc) p.steps := by
  obtain ⟨a, c, rfl, _⟩ := h.len
  obtain ⟨ab, ao, rfl, sv, hr, hst⟩ := h.at hi
  obtain ⟨sa, sc, rfl⟩ := hst.len
  exact ⟨ab, ao, c, sa, sc, rfl, hr, hst⟩
end Go.Proofs.YtadolfacjolbkaaDoor
namespace Go.Proofs.YtadolfacjolbkaaDoor
set_option linter.unusedVariables false
set_option linter.unusedSimpArgs false
open Go.RowKit
set_option maxRecDepth 100000
set_option linter.unusedSimpArgs false
set_option linter.unusedVariables false
theorem results_cell_tmp3 {P : Program} {fn : Func} {p u v x : Tmp} {ty : TypeId} (h : fn.results = #[.cell p ty, .tmp u, .tmp v, .tmp x]) (tmps : Array Value) (w : World) (g : Nat) (t : TypeId) (cs : Array Value) (fr : Nat × Nat) (d : TypeDesc)
    (hp : tmps.getD p undef = .pointer (some ⟨g, 0, none⟩)) (hg : w.heap[g]? = some (.cells cs t fr))
    (hu : P.underlying ty = some d) (hd : (match d with | .struct _ | .array _ _ => true | _ => false) = true) (hi : (P.info? ty).map (·.size) = some cs.size) :
    (results fn tmps).run P w = .ok (.tuple #[.agg cs, tmps.getD u undef, tmps.getD v undef, tmps.getD x undef]) w := by
  have hp' : tmps[p]?.getD undef = .pointer (some ⟨g, 0, none⟩) := by simpa using hp
  simp [results, h, hp', asAddr, run_loadVar_row w g t ty cs fr d hg hu hd hi]
structure ShIs (o : Option Pl) (F : Nat → Int) (i n : Int) : Prop where
  is : ∀ x, o = some x → x = (F, i, n)
def ShPost (o : Option Pl) (w : World) (e : Ending) (w' : World) : Prop :=
  ∃ F i n, e = .returned (.tuple #[.agg (rowOf .u8 32 F), .int .i64 i, .int .i64 n, .bool o.isSome]) ∧ ShIs o F i n ∧ Below w.heap.size w w'
/-- a pointer's variable of a proof, and that of the result -/
structure ShM (w0 w : World) (P : PvP) (sv : Value) : Prop where
  below : Below w0.heap.size w0 w
  h1 : w.heap[w0.heap.size]? = some (.cells (prC P sv) 51 (0, 0))
  h2 : w.heap[w0.heap.size + 1]? = some (.cells (rowOf .u8 32 (fun _ => 0)) 43 (0, 0))
  st : StIn w sv P.steps
theorem ShM.call {w0 w w' : World} {P : PvP} {sv : Value} (m : ShM w0 w P sv) (h : Below w.heap.size w w') : ShM w0 w' P sv :=
  ⟨m.below.trans (h.mono m.below.size), (h.block _ (bk_lt m.h1)).trans m.h1, (h.block _ (bk_lt m.h2)).trans m.h2, m.st.below h⟩
theorem shM_start {w : World} {P : PvP} {sv : Value} (h : StIn w sv P.steps) : ShM w ((w.alloc (.cells (prC P sv) 51)).alloc (.cells (rowOf .u8 32 (fun _ => 0)) 43)) P sv := by
  have hb : Below w.heap.size w ((w.alloc (.cells (prC P sv) 51)).alloc (.cells (rowOf .u8 32 (fun _ => 0)) 43)) := ((Below.refl _ w).alloc (Nat.le_refl _) _).alloc (by simp) _
  refine ⟨hb, ?_, ?_, h.below hb⟩
  · rw [heap_alloc_old _ _ (by simp), heap_alloc_new]
  · have := heap_alloc_new (w.alloc (.cells (prC P sv) 51)) (.cells (rowOf .u8 32 (fun _ => 0)) 43)
    rw [size_alloc] at this; exact this
theorem ShM.cells {w0 w : World} {P : PvP} {sv : Value} (m : ShM w0 w P sv) : w.cell? ⟨w0.heap.size, 0, none⟩ = some (.string P.key) ∧ w.cell? ⟨w0.heap.size, 1, none⟩ = some (.string P.val) ∧ w.cell? ⟨w0.heap.size, 2, none⟩ = some sv :=
  ⟨cell_of_row _ _ 0 _ _ _ m.h1, cell_of_row _ _ 1 _ _ _ m.h1, cell_of_row _ _ 2 _ _ _ m.h1⟩
theorem showF_bad {P : PvP} (h : P.steps.all okS = false) : showF P = none := by unfold showF; rw [if_neg (by rw [h]; simp)]
theorem showF_ok {P : PvP} (hl : P.steps.length ≤ 64) (h : P.steps.all okS = true) : showF P = some (P.steps.foldl upP (pl0 P)) := by unfold showF; rw [if_pos ⟨hl, h⟩]
theorem all_bad {S : List AvS} {s : AvS} (hs : s ∈ S) (h : okS s = false) : S.all okS = false := by
  cases hc : S.all okS with
  | false => rfl
  | true => rw [List.all_eq_true.1 hc s hs] at h; cases h
def ShRel (S : List AvS) (LF : Nat → Int) (w2 : World) (g6 : Nat) (p7 p8 x : Value) (wr : World) : Prop :=
  ∃ (k : Nat) (F : Nat → Int) (i n : Int), k ≤ S.length ∧ x = .int .i64 (k : Int) ∧ p7 = .int .i64 i ∧ p8 = .int .i64 n ∧ Hid ((S.take k).all okS = true ∧ (S.take k).foldl upP (LF, 0, 1) = (F, i, n)) ∧ Hid (Below w2.heap.size w2 wr) ∧ Hid (wr.heap[g6]? = some (.cells (rowOf .u8 32 F) 43 (0, 0)))
set_option maxHeartbeats 8000000 in
theorem rshow_any (P : PvP) (sv : Value) (w : World) (he : Env w) (hst : StIn w sv P.steps) (hz : P.key.size + P.val.size ≤ 1048576) :
    Calls Tryd.prog 48 #[.agg (prC P sv)] w (ShPost (showF P) w) := by
  obtain ⟨va, vc, rfl⟩ := hst.len
  have hlm : P.steps.length ≤ maxLen := by obtain ⟨_, _, _, _, hm, _⟩ := hst; exact hm
  unfold maxLen at hlm
  have M := Lib.hid (shM_start hst)
  have HE := Lib.hid he
  have HLF := Lib.hid (fun w => rLeaf_any P.key P.val w hz)
  obtain ⟨LF, hLF⟩ : ∃ F, F = avLeafF P.key P.val := ⟨_, rfl⟩
  rw [← hLF] at HLF
  have HPL := Lib.hid (show pl0 P = (LF, 0, 1) by unfold pl0; rw [← hLF])
  obtain ⟨S, hS⟩ : ∃ S, S = P.steps := ⟨_, rfl⟩
  have HS := Lib.hid hS
  unfold ShPost
  clear he hst hz hLF
  go_enter Tryd.func48, Tryd.ntmps48
  go_upto_region 1 with (fail)
  rw [zeros32]
  have e0 : (w.alloc (.cells (prC P (.slice va P.steps.length vc)) 51)).alloc (.cells (rowOf .u8 32 (fun _ => 0)) 43) = (w.alloc (.cells #[.string P.key, .string P.val, .slice va P.steps.length vc] 51)).alloc (.cells (rowOf .u8 32 (fun _ => 0)) 43) := rfl
  try rw [← e0]
  clear e0
  generalize (w.alloc (.cells (prC P (.slice va P.steps.length vc)) 51)).alloc (.cells (rowOf .u8 32 (fun _ => 0)) 43) = w1 at *
  obtain ⟨ck, cv, cs⟩ := M.out.cells
  go_upto_region 2 with (first
    | (go_at_call 42; (with_reducible refine (HLF.out _).mono ?_); rintro e w2 ⟨rfl, hb⟩; replace M := Lib.hid (M.out.call hb); clear hb ck cv cs)
    | (refine wpList_store_row rfl 43 (.tmp 6) (.tmp 15) rfl w2.heap.size (rowOf .u8 32 LF) rfl rfl 43 _ (heap_alloc_new _ _) (by rw [rowOf_size]; kernel_rfl) (by rw [rowOf_size]; rfl) (rowOf_one _ _ _) ?_; rw [World.setRow_alloc_new]))
  have H6 := Lib.hid (heap_alloc_new w2 (.cells (rowOf .u8 32 LF) 43))
  have HB2 := Lib.hid (below_alloc w2 (.cells (rowOf .u8 32 LF) 43))
  have M2 := M
  replace M := Lib.hid (M.out.call HB2.out)
  obtain ⟨g6, hg6⟩ : ∃ g, g = w2.heap.size := ⟨_, rfl⟩
  have HG6 := Lib.hid hg6
  rw [← hg6] at H6 ⊢
  clear hg6
  generalize w2.alloc (.cells (rowOf .u8 32 LF) 43) = w3 at *
  obtain ⟨-, -, cs⟩ := M.out.cells
  rw [← hS] at cs hlm
  by_cases hl : 64 < P.steps.length
  · have HF := Lib.hid (show showF P = none by unfold showF; rw [if_neg (by omega)])
    have hlI : (64 : Int) < (S.length : Int) := by rw [hS]; omega
    clear hS hl
    go_wp2_with (first
      | (refine wpList_load_row rfl 43 (.tmp 6) rfl g6 rfl 43 _ (0, 0) _ H6.out Tryd.underlying43 rfl (by rw [rowOf_size]; kernel_rfl) ?_)
      | (refine wpList_store_row rfl 43 (.tmp 2) (.tmp 20) rfl (w.heap.size + 1) (rowOf .u8 32 LF) rfl rfl 43 _ M.out.h2 (by rw [rowOf_size]; kernel_rfl) (by rw [rowOf_size, rowOf_size]) (rowOf_one _ _ _) ?_))
    refine bodyPost_ret (results_cell_tmp3 rfl _ _ (w.heap.size + 1) 43 (rowOf .u8 32 LF) (0, 0) _ rfl (setRow_heap _ _ _ _ _ _ M.out.h2) Tryd.underlying43 rfl (by rw [rowOf_size]; kernel_rfl)) rfl ?_
    exact ⟨LF, 0, 0, by rw [HF.out]; rfl, ⟨fun x hx => by rw [HF.out] at hx; cases hx⟩, below_setRow M.out.below (by omega) _⟩
  · have hl2 : S.length ≤ 64 := by rw [hS]; omega
    have hlI : ¬ (64 : Int) < (S.length : Int) := by omega
    have HFE := Lib.hid (show S.all okS = true → showF P = some (S.foldl upP (LF, 0, 1)) from fun ha => by rw [showF_ok (by omega) (by rw [← hS]; exact ha), HPL.out, hS])
    have HFN := Lib.hid (show S.all okS = false → showF P = none from fun ha => showF_bad (by rw [← hS]; exact ha))
    clear hS hl
    go_wp2_with (fail)
    clear cs
    go_loopw [7, 8, 9] (fun p7 p8 x wr => ShRel S LF w2 g6 p7 p8 x wr) (fun _ _ x _ => S.length - (intOf x).toNat)
    case atStart => unfold ShRel; exact ⟨0, LF, 0, 1, by omega, rfl, rfl, rfl, Lib.hid ⟨rfl, rfl⟩, HB2, H6⟩
    case round =>
      clear HB2 H6 M
      obtain ⟨k, F, i, n, hkl, rfl, rfl, rfl, HK, HB2, H6⟩ := hrel
      have hkb : k ≤ 64 := by omega
      have M := Lib.hid (M2.out.call HB2.out)
      by_cases hlt : k < S.length
      · obtain ⟨s, hs⟩ : ∃ s, S[k]? = some s := ⟨S[k], List.getElem?_eq_getElem hlt⟩
        obtain ⟨ab, ao, c', e1, hab, hra⟩ := st_in_range M.out.st (by rw [← HS.out]; exact hs)
        injection e1 with e1 _ e3
        subst e1
        subst e3
        have hltI : (k : Int) < (S.length : Int) := by omega
        have HRA := Lib.hid (show wr.rangeAt ab (ao + k * 34) (stC s).toList from hra)
        have HSN := Lib.hid (snoc_up S (LF, 0, 1) k s hs)
        have HSO := Lib.hid (fun h => snoc_ok S k s hs HK.out.1 h)
        have HSM := Lib.hid (List.mem_of_getElem? hs)
        have hbd := fold_bd (S.take k) (LF, 0, 1) 1 HK.out.1 (by simp) (by simp)
        rw [HK.out.2, List.length_take] at hbd
        simp only at hbd
        have hi0 : 0 ≤ i := hbd.1.1
        have hi1 : i ≤ 1099511627776 := by omega
        have hn0 : 1 ≤ n := hbd.2.1
        have hn1 : n ≤ 1099511627776 := by omega
        have cs : wr.cell? ⟨w.heap.size, 2, none⟩ = some (.slice (some ⟨ab, ao, none⟩) S.length vc) := by rw [HS.out]; exact M.out.cells.2.2
        clear hs hra hab hbd
        go_upto_region 8 with (first
          | (refine wpList_load_rowsz (by rfl) 111 (.tmp 31) rfl ab (ao + k * 34) rfl (stC s) _ HRA.out Tryd.underlying111 rfl (by rw [stC_size]; kernel_rfl) ?_)
          | (refine wpList_store_row rfl 111 (.tmp 10) (.tmp 32) rfl wr.heap.size (stC s) rfl rfl 111 _ (heap_alloc_new _ _) (by rw [stC_size]; kernel_rfl) (by rw [stC_size]; rfl) (stC_one _) ?_; rw [World.setRow_alloc_new]))
        have H10 := Lib.hid (heap_alloc_new wr (.cells (stC s) 111))
        replace H6 := Lib.hid (((below_alloc wr (.cells (stC s) 111)).block _ (bk_lt H6.out)).trans H6.out)
        replace HB2 := Lib.hid (HB2.out.trans ((below_alloc wr (.cells (stC s) 111)).mono HB2.out.size))
        obtain ⟨g10, hg10⟩ : ∃ g, g = wr.heap.size := ⟨_, rfl⟩
        rw [← hg10] at H10 ⊢
        clear hg10 HRA cs M
        generalize wr.alloc (.cells (stC s) 111) = w4 at *
        have M := Lib.hid (M2.out.call HB2.out)
        obtain ⟨c0, c1, -⟩ := st_cells H10.out
        by_cases hm : 1 ≤ s.many ∧ s.many ≤ 4294967296
        · obtain ⟨hm1, hm2⟩ := hm
          have hok : okS s = true := by unfold okS; simp only [Bool.and_eq_true, decide_eq_true_eq]; omega
          have hm3 : ¬ s.many < 1 := by omega
          have hm4 : ¬ (4294967296 : Int) < s.many := by omega
          have HR := Lib.hid ((st_cells H10.out).2.2)
          have HOK := Lib.hid (HSO.out hok)
          have HE4 := Lib.hid (HE.out.below M.out.below HE.out.lt)
          clear hok HSO HSM
          cases hsec : s.sec with
          | true =>
            rw [hsec] at c0
            have HUP := Lib.hid (show (S.take (k + 1)).foldl upP (LF, 0, 1) = (avNodeF (uN s.many) s.oth (uN n) F, i + s.many, n + s.many) from by rw [HSN.out, HK.out.2]; unfold upP; rw [if_pos hsec]; simp only; rw [Int.add_comm s.many i])
            have HND := Lib.hid (fun w he => rNode_any s.many n s.oth F w he)
            obtain ⟨Y, hY⟩ : ∃ Y, Y = avNodeF (uN s.many) s.oth (uN n) F := ⟨_, rfl⟩
            rw [← hY] at HUP HND
            clear hY hsec HSN
            go_upto_region 12 with (first
              | (refine wpList_load_rowsz (by rfl) 43 (.tmp 46) rfl g10 2 rfl (rowOf .u8 32 s.oth) _ HR.out Tryd.underlying43 rfl (by rw [rowOf_size]; kernel_rfl) ?_)
              | (refine wpList_load_row rfl 43 (.tmp 6) rfl g6 rfl 43 _ (0, 0) _ H6.out Tryd.underlying43 rfl (by rw [rowOf_size]; kernel_rfl) ?_)
              | (go_at_call 43; (with_reducible refine (HND.out _ HE4.out).mono ?_); rintro e w5 ⟨rfl, hb⟩; replace H10 := Lib.hid ((hb.block _ (bk_lt H10.out)).trans H10.out); replace H6 := Lib.hid ((hb.block _ (bk_lt H6.out)).trans H6.out); replace HB2 := Lib.hid (HB2.out.trans (hb.mono HB2.out.size)); clear hb c0 c1)
              | (refine wpList_store_row rfl 43 (.tmp 6) (.tmp 50) rfl g6 (rowOf .u8 32 Y) rfl rfl 43 _ H6.out (by rw [rowOf_size]; kernel_rfl) (by rw [rowOf_size, rowOf_size]) (rowOf_one _ _ _) ?_))
            have hne : g10 ≠ g6 := fun e => by
              have h1 := H10.out; rw [e, H6.out] at h1; injection h1 with h1; injection h1 with _ h1 _; exact absurd h1 (by decide)
            have H10' := Lib.hid (show (w5.setRow g6 (rowOf .u8 32 Y)).heap[g10]? = some (.cells (stC s) 111 (0, 0)) from (setRow_other _ _ _ _ hne).trans H10.out)
            replace H6 := Lib.hid (show (w5.setRow g6 (rowOf .u8 32 Y)).heap[g6]? = some (.cells (rowOf .u8 32 Y) 43 (0, 0)) from setRow_heap _ _ _ (rowOf .u8 32 Y) _ _ H6.out)
            replace HB2 := Lib.hid (below_setRow HB2.out (Nat.le_of_eq HG6.out.symm) (rowOf .u8 32 Y))
            generalize w5.setRow g6 (rowOf .u8 32 Y) = w6 at *
            clear hne H10 HR
            have c1 := (st_cells H10'.out).2.1
            go_wp2_with (fail)
            go_roundw
            case rel => unfold ShRel; exact ⟨k + 1, Y, i + s.many, n + s.many, by omega, by go_num, rfl, rfl, Lib.hid ⟨HOK.out, HUP.out⟩, HB2, H6⟩
            case measure => simp [intOf]; omega
          | false =>
            rw [hsec] at c0
            have HUP := Lib.hid (show (S.take (k + 1)).foldl upP (LF, 0, 1) = (avNodeF (uN n) F (uN s.many) s.oth, i, n + s.many) from by rw [HSN.out, HK.out.2]; unfold upP; rw [if_neg (by rw [hsec]; simp)])
            have HND := Lib.hid (fun w he => rNode_any n s.many F s.oth w he)
            obtain ⟨Y, hY⟩ : ∃ Y, Y = avNodeF (uN n) F (uN s.many) s.oth := ⟨_, rfl⟩
            rw [← hY] at HUP HND
            clear hY hsec HSN
            go_upto_region 14 with (first
              | (refine wpList_load_rowsz (by rfl) 43 (.tmp 59) rfl g10 2 rfl (rowOf .u8 32 s.oth) _ HR.out Tryd.underlying43 rfl (by rw [rowOf_size]; kernel_rfl) ?_)
              | (refine wpList_load_row rfl 43 (.tmp 6) rfl g6 rfl 43 _ (0, 0) _ H6.out Tryd.underlying43 rfl (by rw [rowOf_size]; kernel_rfl) ?_)
              | (go_at_call 43; (with_reducible refine (HND.out _ HE4.out).mono ?_); rintro e w5 ⟨rfl, hb⟩; replace H10 := Lib.hid ((hb.block _ (bk_lt H10.out)).trans H10.out); replace H6 := Lib.hid ((hb.block _ (bk_lt H6.out)).trans H6.out); replace HB2 := Lib.hid (HB2.out.trans (hb.mono HB2.out.size)); clear hb c0 c1)
              | (refine wpList_store_row rfl 43 (.tmp 6) (.tmp 61) rfl g6 (rowOf .u8 32 Y) rfl rfl 43 _ H6.out (by rw [rowOf_size]; kernel_rfl) (by rw [rowOf_size, rowOf_size]) (rowOf_one _ _ _) ?_))
            have hne : g10 ≠ g6 := fun e => by
              have h1 := H10.out; rw [e, H6.out] at h1; injection h1 with h1; injection h1 with _ h1 _; exact absurd h1 (by decide)
            have H10' := Lib.hid (show (w5.setRow g6 (rowOf .u8 32 Y)).heap[g10]? = some (.cells (stC s) 111 (0, 0)) from (setRow_other _ _ _ _ hne).trans H10.out)
            replace H6 := Lib.hid (show (w5.setRow g6 (rowOf .u8 32 Y)).heap[g6]? = some (.cells (rowOf .u8 32 Y) 43 (0, 0)) from setRow_heap _ _ _ (rowOf .u8 32 Y) _ _ H6.out)
            replace HB2 := Lib.hid (below_setRow HB2.out (Nat.le_of_eq HG6.out.symm) (rowOf .u8 32 Y))
            generalize w5.setRow g6 (rowOf .u8 32 Y) = w6 at *
            clear hne H10 HR
            have c1 := (st_cells H10'.out).2.1
            go_wp2_with (fail)
            go_roundw
            case rel => unfold ShRel; exact ⟨k + 1, Y, i, n + s.many, by omega, by go_num, rfl, rfl, Lib.hid ⟨HOK.out, HUP.out⟩, HB2, H6⟩
            case measure => simp [intOf]; omega
        · have HF := Lib.hid (HFN.out (all_bad HSM.out (by
            cases hc : okS s with
            | false => rfl
            | true => unfold okS at hc; simp only [Bool.and_eq_true, decide_eq_true_eq] at hc; exact absurd hc hm)))
          rcases Int.lt_or_le s.many 1 with hm1 | hm1
          all_goals
            have hm2 : s.many < 1 ∨ (4294967296 : Int) < s.many := by omega
            clear hm
            go_wp2_with (first
              | (refine wpList_load_row rfl 43 (.tmp 6) rfl g6 rfl 43 _ (0, 0) _ H6.out Tryd.underlying43 rfl (by rw [rowOf_size]; kernel_rfl) ?_)
              | (refine wpList_store_row rfl 43 (.tmp 2) (.tmp 41) rfl (w.heap.size + 1) (rowOf .u8 32 F) rfl rfl 43 _ M.out.h2 (by rw [rowOf_size]; kernel_rfl) (by rw [rowOf_size, rowOf_size]) (rowOf_one _ _ _) ?_))
            refine bodyPost_ret (results_cell_tmp3 rfl _ _ (w.heap.size + 1) 43 (rowOf .u8 32 F) (0, 0) _ rfl (setRow_heap _ _ _ _ _ _ M.out.h2) Tryd.underlying43 rfl (by rw [rowOf_size]; kernel_rfl)) rfl ?_
            exact ⟨F, 0, 0, by rw [HF.out]; rfl, ⟨fun x hx => by rw [HF.out] at hx; cases hx⟩, below_setRow M.out.below (by omega) _⟩
      · obtain rfl : k = S.length := by omega
        rw [List.take_length] at HK
        have HF := Lib.hid (show showF P = some (F, i, n) from by rw [HFE.out HK.out.1, HK.out.2])
        have cs : wr.cell? ⟨w.heap.size, 2, none⟩ = some (.slice va S.length vc) := by rw [HS.out]; exact M.out.cells.2.2
        clear hlt hkl
        go_wp2_with (first
          | (refine wpList_load_row rfl 43 (.tmp 6) rfl g6 rfl 43 _ (0, 0) _ H6.out Tryd.underlying43 rfl (by rw [rowOf_size]; kernel_rfl) ?_)
          | (refine wpList_store_row rfl 43 (.tmp 2) (.tmp 66) rfl (w.heap.size + 1) (rowOf .u8 32 F) rfl rfl 43 _ M.out.h2 (by rw [rowOf_size]; kernel_rfl) (by rw [rowOf_size, rowOf_size]) (rowOf_one _ _ _) ?_))
        refine bodyPost_ret (results_cell_tmp3 rfl _ _ (w.heap.size + 1) 43 (rowOf .u8 32 F) (0, 0) _ rfl (setRow_heap _ _ _ _ _ _ M.out.h2) Tryd.underlying43 rfl (by rw [rowOf_size]; kernel_rfl)) rfl ?_
        exact ⟨F, i, n, by rw [HF.out]; rfl, ⟨fun x hx => by rw [HF.out] at hx; injection hx with hx; exact hx.symm⟩, below_setRow M.out.below (by omega) _⟩
end Go.Proofs.YtadolfacjolbkaaDoor

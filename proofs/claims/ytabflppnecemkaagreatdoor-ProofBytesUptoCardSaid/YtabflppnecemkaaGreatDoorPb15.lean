/- Part 15 of the proof. -/
import Derived.Test.YtabflppnecemkaaGreatDoorPb9
import Derived.Test.YtabflppnecemkaaGreatDoorPb14
namespace Go.Proofs.YtabflppnecemkaaGreatDoor
set_option linter.unusedVariables false
set_option linter.unusedSimpArgs false
open Go.RowKit
set_option maxRecDepth 100000
set_option linter.unusedSimpArgs false
set_option linter.unusedVariables false
structure PvP where
  key : ByteArray
  val : ByteArray
  steps : List AvS
def prC (p : PvP) (v : Value) : Array Value := #[.string p.key, .string p.val, v]
def okS (s : AvS) : Bool := decide (1 ≤ s.many) && decide (s.many ≤ 4294967296)
def pl0 (p : PvP) : Pl := (avLeafF p.key p.val, 0, 1)
def showF (p : PvP) : Option Pl := if p.steps.length ≤ 64 ∧ p.steps.all okS = true then some (p.steps.foldl upP (pl0 p)) else none
def followF (R : Nat → Int) (p : PvP) : Option Pl := match showF p with
  | some x => if eqB x.1 R then some x else none
  | none => none
def e23 (o : Option Pl) : Option Nat := if o.isSome then none else some 23
def FoPost (R : Nat → Int) (p : PvP) (w : World) (e : Ending) (w' : World) : Prop := e = .returned (.tuple #[.agg (plC ((followF R p).getD plZ)), errV (e23 (followF R p))]) ∧ Below w.heap.size w w'
theorem upP_bd (s : AvS) (hs : okS s = true) (x : Pl) (B : Int) (h1 : 0 ≤ x.2.1 ∧ x.2.1 ≤ B) (h2 : 1 ≤ x.2.2 ∧ x.2.2 ≤ B) : (0 ≤ (upP x s).2.1 ∧ (upP x s).2.1 ≤ B + 4294967296) ∧ (1 ≤ (upP x s).2.2 ∧ (upP x s).2.2 ≤ B + 4294967296) := by
  unfold okS at hs
  simp only [Bool.and_eq_true, decide_eq_true_eq] at hs
  unfold upP
  split <;> simp only <;> omega
theorem fold_bd : ∀ (l : List AvS) (x : Pl) (B : Int), l.all okS = true → (0 ≤ x.2.1 ∧ x.2.1 ≤ B) → (1 ≤ x.2.2 ∧ x.2.2 ≤ B) → (0 ≤ (l.foldl upP x).2.1 ∧ (l.foldl upP x).2.1 ≤ B + l.length * 4294967296) ∧ (1 ≤ (l.foldl upP x).2.2 ∧ (l.foldl upP x).2.2 ≤ B + l.length * 4294967296)
  | [], x, B, _, h1, h2 => by simpa using ⟨h1, h2⟩
  | s :: l, x, B, hs, h1, h2 => by
    rw [List.all_cons, Bool.and_eq_true] at hs
    obtain ⟨u1, u2⟩ := upP_bd s hs.1 x B h1 h2
    obtain ⟨i1, i2⟩ := fold_bd l (upP x s) (B + 4294967296) hs.2 u1 u2
    rw [List.foldl_cons, List.length_cons]
    constructor <;> constructor <;> first | exact i1.1 | exact i2.1 | (push_cast; omega)
theorem snoc_up (l : List AvS) (x : Pl) (k : Nat) (s : AvS) (h : l[k]? = some s) : (l.take (k + 1)).foldl upP x = upP ((l.take k).foldl upP x) s := by
  have hk : k < l.length := (List.getElem?_eq_some_iff.1 h).1
  rw [List.take_succ_eq_append_getElem hk, List.foldl_append]
  rw [List.getElem?_eq_getElem hk] at h
  injection h with h
  rw [h]; rfl
theorem snoc_ok (l : List AvS) (k : Nat) (s : AvS) (h : l[k]? = some s) (ha : (l.take k).all okS = true) (hs : okS s = true) : (l.take (k + 1)).all okS = true := by
  have hk : k < l.length := (List.getElem?_eq_some_iff.1 h).1
  rw [List.take_succ_eq_append_getElem hk, List.all_append, ha]
  rw [List.getElem?_eq_getElem hk] at h
  injection h with h
  rw [h]; simp [hs]
/-- what lies in memory while follow goes on -/
structure FoM (w w' : World) (R : Nat → Int) (p : PvP) (v : Value) : Prop where
  below : Below w.heap.size w w'
  h2 : RowAt w' w.heap.size .u8 32 62 R
  h3 : w'.heap[w.heap.size + 1]? = some (.cells (prC p v) 31 (0, 0))
  h4 : w'.heap[w.heap.size + 1 + 1]? = some (.cells (plC plZ) 142 (0, 0))
  st : StIn w' v p.steps
theorem bk_lt {w : World} {g : Nat} {o : Obj} (h : w.heap[g]? = some o) : g < w.heap.size := (Array.getElem?_eq_some_iff.1 h).1
theorem FoM.call {w w' w2 : World} {R : Nat → Int} {p : PvP} {v : Value} (m : FoM w w' R p v) (h : Below w'.heap.size w' w2) : FoM w w2 R p v :=
  ⟨m.below.trans (h.mono m.below.size), (h.block _ (bk_lt m.h2)).trans m.h2, (h.block _ (bk_lt m.h3)).trans m.h3, (h.block _ (bk_lt m.h4)).trans m.h4, m.st.below h⟩
theorem FoM.cells {w w' : World} {R : Nat → Int} {p : PvP} {v : Value} (m : FoM w w' R p v) : w'.cell? ⟨w.heap.size + 1, 0, none⟩ = some (.string p.key) ∧ w'.cell? ⟨w.heap.size + 1, 1, none⟩ = some (.string p.val) ∧ w'.cell? ⟨w.heap.size + 1, 2, none⟩ = some v :=
  ⟨cell_of_row w' _ 0 _ _ _ m.h3, cell_of_row w' _ 1 _ _ _ m.h3, cell_of_row w' _ 2 _ _ _ m.h3⟩
def foW (w : World) (R : Nat → Int) (p : PvP) (v : Value) : World := ((w.alloc (.cells (rowOf .u8 32 R) 62)).alloc (.cells (prC p v) 31)).alloc (.cells (plC plZ) 142)
theorem foM_start {w : World} {R : Nat → Int} {p : PvP} {v : Value} (h : StIn w v p.steps) : FoM w (foW w R p v) R p v := by
  have hb : Below w.heap.size w (foW w R p v) := (((Below.refl _ w).alloc (Nat.le_refl _) _).alloc (by simp) _).alloc (by simp; omega) _
  refine ⟨hb, ?_, ?_, ?_, h.below hb⟩
  · show (foW w R p v).heap[w.heap.size]? = _
    unfold foW; rw [heap_alloc_old _ _ (by simp; omega), heap_alloc_old _ _ (by simp), heap_alloc_new]
  · unfold foW; rw [heap_alloc_old _ _ (by simp)]
    have := heap_alloc_new (w.alloc (.cells (rowOf .u8 32 R) 62)) (.cells (prC p v) 31)
    rw [size_alloc] at this; exact this
  · unfold foW
    have := heap_alloc_new ((w.alloc (.cells (rowOf .u8 32 R) 62)).alloc (.cells (prC p v) 31)) (.cells (plC plZ) 142)
    rw [size_alloc, size_alloc] at this; exact this
theorem wpList_neq32 {w : World} {ops : Array Oper} {rest : List Oper} {o : Oper} {a : Act} {Q : Exit → Act → World → Prop} (hw : Region.wanted o (yielded ops a.tmps) = true) (x y : Operand) (ho : o.op = .binOp .neq 62 x y 62) (f g : Nat → Int) (b : Bool)
    (hx : a.eval x = .agg (rowOf .u8 32 f)) (hy : a.eval y = .agg (rowOf .u8 32 g)) (hb : eqB f g = b) (h : wpList Tryz.prog ops Q rest (a.put o.dst (.bool (!b))) w) : wpList Tryz.prog ops Q (o :: rest) a w :=
  BigFrame.wpList_want hw fun K hK => by
    have hk := hK _ _ h
    have h1 := eqIn32 f g w
    rw [hb] at h1
    unfold Oper.wp execOp
    simp only [ho, hx, hy]
    go_simp
    exact hk
theorem wpList_builtP {w : World} {ops : Array Oper} {rest : List Oper} {o : Oper} {a : Act} {Q : Exit → Act → World → Prop} (hg : o.guard = none) (x y z : Operand) (ho : o.op = .build 142 #[(0, x), (1, y), (2, z)]) (X : Pl)
    (hx : a.eval x = .agg (rowOf .u8 32 X.1)) (hy : a.eval y = .int .i64 X.2.1) (hz : a.eval z = .int .i64 X.2.2)
    (h : wpList Tryz.prog ops Q rest (a.put o.dst (.agg (plC X))) w) : wpList Tryz.prog ops Q (o :: rest) a w := by
  have hf : Tryz.prog.built 142 ((#[(0, x), (1, y), (2, z)] : Array (Nat × Operand)).map fun (i, x) => (i, a.eval x)).toList = some (plC X) := by
    refine Eq.trans (congrArg (Tryz.prog.built 142) ?_) (pl_built X)
    simp [hx, hy, hz]
  exact wpList_build hg 142 _ ho (by rw [hf]; rfl) (by rw [hf]; exact h)
theorem wpList_builtZ {w : World} {ops : Array Oper} {rest : List Oper} {o : Oper} {a : Act} {Q : Exit → Act → World → Prop} (hg : o.guard = none) (ho : o.op = .build 142 #[])
    (h : wpList Tryz.prog ops Q rest (a.put o.dst (.agg (plC plZ))) w) : wpList Tryz.prog ops Q (o :: rest) a w := by
  have hf : Tryz.prog.built 142 ((#[] : Array (Nat × Operand)).map fun (i, x) => (i, a.eval x)).toList = some (plC plZ) := by kernel_rfl
  exact wpList_build hg 142 _ ho (by rw [hf]; rfl) (by rw [hf]; exact h)
set_option maxHeartbeats 8000000 in
theorem follow_any (R : Nat → Int) (p : PvP) (v : Value) (w : World) (he : Env w) (hst : StIn w v p.steps) (hz : p.key.size + p.val.size ≤ 140737488351232) :
    Calls Tryz.prog 76 #[.agg (rowOf .u8 32 R), .agg (prC p v)] w (FoPost R p w) := by
  obtain ⟨va, vc, rfl⟩ := hst.len
  have M := Lib.hid (foM_start (R := R) hst)
  have HE := Lib.hid he
  have HZ := Lib.hid hz
  clear he hst hz
  unfold FoPost
  obtain ⟨FR, hFR⟩ : ∃ x, x = followF R p := ⟨_, rfl⟩
  rw [← hFR]
  go_enter Tryz.func76, Tryz.ntmps76
  go_upto_region 1 with (fail)
  rw [plZ_lit]
  have e0 : ((w.alloc (.cells (rowOf .u8 32 R) 62)).alloc (.cells (prC p (.slice va p.steps.length vc)) 31)).alloc (.cells (plC plZ) 142) = foW w R p (.slice va p.steps.length vc) := rfl
  rw [e0]
  clear e0
  generalize foW w R p (.slice va p.steps.length vc) = w1 at *
  obtain ⟨ck, cv, cs⟩ := M.out.cells
  by_cases hl : 64 < p.steps.length
  · have HF := Lib.hid (show FR = none by
      rw [hFR]; unfold followF showF
      rw [if_neg (by omega)])
    clear hFR
    have hlI : (64 : Int) < (p.steps.length : Int) := by omega
    go_wp2_with (first
      | (refine wpList_builtZ rfl rfl ?_)
      | (refine wpList_store_row rfl 142 (.tmp 4) (.tmp 13) rfl (w.heap.size + 1 + 1) (plC plZ) rfl rfl 142 _ M.out.h4 (by rw [plC_size]; kernel_rfl) (by rw [plC_size]) (plC_one _) ?_))
    refine bodyPost_ret (results_cell_tmp_row rfl _ _ (w.heap.size + 1 + 1) 142 (plC plZ) (0, 0) _ rfl (setRow_heap _ _ _ _ _ _ M.out.h4) Tryz.underlying142 rfl (by rw [plC_size]; kernel_rfl)) rfl ?_
    exact ⟨by rw [HF.out]; rfl, below_setRow M.out.below (by omega) _⟩
  · have hl2 : p.steps.length ≤ 64 := by omega
    have hlI : ¬ (64 : Int) < (p.steps.length : Int) := by omega
    obtain ⟨S, hS⟩ : ∃ S, S = p.steps := ⟨_, rfl⟩
    have HS := Lib.hid hS
    rw [← hS] at hl2 hlI cs
    have HLF := Lib.hid (fun w he => avLeaf_any p.key p.val w he HZ.out)
    obtain ⟨LF, hLF⟩ : ∃ F, F = avLeafF p.key p.val := ⟨_, rfl⟩
    rw [← hLF] at HLF
    have HFE := Lib.hid (show S.all okS = true → FR = (if eqB (S.foldl upP (LF, 0, 1)).1 R then some (S.foldl upP (LF, 0, 1)) else none) by
      intro ha
      rw [hFR]; unfold followF showF
      rw [← hS, if_pos ⟨hl2, ha⟩]
      simp only [pl0, ← hLF])
    have HFN := Lib.hid (show S.all okS = false → FR = none by
      intro ha
      rw [hFR]; unfold followF showF
      rw [← hS, if_neg (by rw [ha]; simp)])
    clear hS hLF hl hFR
    go_upto_region 4 with (first
      | (go_at_call 85; (with_reducible refine (HLF.out _ (HE.out.below M.out.below HE.out.lt)).mono ?_); rintro e w2 ⟨rfl, hb⟩; replace M := Lib.hid (M.out.call hb); clear hb ck cv cs)
      | (refine wpList_builtP rfl (.tmp 19) (.const (.int .i64 0)) (.const (.int .i64 1)) rfl (LF, 0, 1) rfl rfl rfl ?_)
      | (refine wpList_store_row rfl 142 (.tmp 6) (.tmp 20) rfl w2.heap.size (plC (LF, 0, 1)) rfl rfl 142 _ (heap_alloc_new _ _) (by rw [plC_size]; kernel_rfl) (by rw [plC_size]; rfl) (plC_one _) ?_; rw [World.setRow_alloc_new]))
    have HB2 := Lib.hid (below_alloc w2 (.cells (plC (LF, 0, 1)) 142))
    have HP6 := Lib.hid (heap_alloc_new w2 (.cells (plC (LF, 0, 1)) 142))
    have M2 := M
    replace M := Lib.hid (M.out.call HB2.out)
    obtain ⟨g6, hg6⟩ : ∃ g, g = w2.heap.size := ⟨_, rfl⟩
    have HG6 := Lib.hid hg6
    rw [← hg6] at HP6 ⊢
    clear hg6
    generalize w2.alloc (.cells (plC (LF, 0, 1)) 142) = w3 at *
    obtain ⟨-, -, cs⟩ := M.out.cells
    rw [← HS.out] at cs
    go_wp2_with (fail)
    clear cs
    go_loopw [24] (fun x wr => ∃ k : Nat, k ≤ S.length ∧ x = .int .i64 (k : Int) ∧ Hid ((S.take k).all okS = true) ∧ Hid (Below w2.heap.size w2 wr) ∧ Hid (wr.heap[g6]? = some (.cells (plC ((S.take k).foldl upP (LF, 0, 1))) 142 (0, 0)))) (fun x _ => S.length - (intOf x).toNat)
    case atStart => exact ⟨0, by omega, rfl, Lib.hid rfl, HB2, HP6⟩
    case round =>
      clear HB2 HP6 M
      obtain ⟨k, hkl, rfl, HOK, HB2, HP6⟩ := hrel
      have hkb : k ≤ 64 := by omega
      by_cases hlt : k < S.length
      · obtain ⟨s, hs⟩ : ∃ s, S[k]? = some s := ⟨S[k], List.getElem?_eq_getElem hlt⟩
        obtain ⟨ab, ao, rfl, hab, hra⟩ := M2.out.st.at k s (by rw [← HS.out]; exact hs)
        have hltI : (k : Int) < (S.length : Int) := by omega
        have HRA := Lib.hid (range_below hra HB2.out hab)
        have HSN := Lib.hid (snoc_up S (LF, 0, 1) k s hs)
        have HSO := Lib.hid (fun h => snoc_ok S k s hs HOK.out h)
        have HSM := Lib.hid (List.mem_of_getElem? hs)
        have HBD := Lib.hid (fold_bd (S.take k) (LF, 0, 1) 1 HOK.out (by simp) (by simp))
        obtain ⟨X, hX⟩ : ∃ X, X = (S.take k).foldl upP (LF, 0, 1) := ⟨_, rfl⟩
        rw [← hX] at HP6 HSN HBD
        clear hs hra hab hX
        go_upto_region 7 with (first
          | (refine wpList_load_rowsz (by rfl) 65 (.tmp 26) rfl ab (ao + k * 34) rfl (stC s) _ HRA.out Tryz.underlying65 rfl (by rw [stC_size]; kernel_rfl) ?_)
          | (refine wpList_store_row rfl 65 (.tmp 8) (.tmp 27) rfl wr.heap.size (stC s) rfl rfl 65 _ (heap_alloc_new _ _) (by rw [stC_size]; kernel_rfl) (by rw [stC_size]; rfl) (stC_one _) ?_; rw [World.setRow_alloc_new]))
        have H8 := Lib.hid (heap_alloc_new wr (.cells (stC s) 65))
        replace HP6 := Lib.hid (((below_alloc wr (.cells (stC s) 65)).block _ (bk_lt HP6.out)).trans HP6.out)
        replace HB2 := Lib.hid (HB2.out.trans ((below_alloc wr (.cells (stC s) 65)).mono HB2.out.size))
        obtain ⟨g8, hg8⟩ : ∃ g, g = wr.heap.size := ⟨_, rfl⟩
        rw [← hg8] at H8 ⊢
        clear hg8 HRA
        generalize wr.alloc (.cells (stC s) 65) = w4 at *
        have c1 := (st_cells H8.out).2.1
        by_cases hm1 : s.many < 1
        · have HF0 := HFN.out (by
            cases hc : S.all okS with
            | false => rfl
            | true =>
              have := List.all_eq_true.1 hc s HSM.out
              unfold okS at this
              simp only [Bool.and_eq_true, decide_eq_true_eq] at this
              omega)
          have HF := Lib.hid HF0
          have HM4 := Lib.hid (M2.out.call HB2.out)
          clear HF0
          go_wp2_with (first
            | (refine wpList_builtZ rfl rfl ?_)
            | (refine wpList_store_row rfl 142 (.tmp 4) (.tmp 36) rfl (w.heap.size + 1 + 1) (plC plZ) rfl rfl 142 _ HM4.out.h4 (by rw [plC_size]; kernel_rfl) (by rw [plC_size]) (plC_one _) ?_))
          refine bodyPost_ret (results_cell_tmp_row rfl _ _ (w.heap.size + 1 + 1) 142 (plC plZ) (0, 0) _ rfl (setRow_heap _ _ _ _ _ _ HM4.out.h4) Tryz.underlying142 rfl (by rw [plC_size]; kernel_rfl)) rfl ?_
          exact ⟨by rw [HF.out]; rfl, below_setRow HM4.out.below (by omega) _⟩
        · by_cases hm2 : s.many ≤ 4294967296
          · have hok : okS s = true := by unfold okS; simp only [Bool.and_eq_true, decide_eq_true_eq]; omega
            have hm3 : ¬ (4294967296 : Int) < s.many := by omega
            have HUP := Lib.hid (fun w he => up_any X s w he (by have := HBD.out.1; rw [List.length_take] at this; omega) (by have := HBD.out.2; rw [List.length_take] at this; omega) (by omega))
            obtain ⟨Y, hY⟩ : ∃ Y, Y = upP X s := ⟨_, rfl⟩
            rw [← hY] at HUP HSN
            clear hY hm1 hm2 HBD
            have hm1 : ¬ s.many < 1 := by unfold okS at hok; simp only [Bool.and_eq_true, decide_eq_true_eq] at hok; omega
            go_upto_region 9 with (fail)
            clear c1 hm1 hm3
            go_upto_region 10 with (first
              | (refine wpList_load_row rfl 142 (.tmp 6) rfl g6 rfl 142 _ (0, 0) _ HP6.out Tryz.underlying142 rfl (by rw [plC_size]; kernel_rfl) ?_)
              | (refine wpList_load_row rfl 65 (.tmp 8) rfl g8 rfl 65 _ (0, 0) _ H8.out Tryz.underlying65 rfl (by rw [stC_size]; kernel_rfl) ?_)
              | (go_at_call 91; (with_reducible refine (HUP.out _ (HE.out.below (M2.out.call HB2.out).below HE.out.lt)).mono ?_); rintro e w5 ⟨rfl, hb⟩; replace HP6 := Lib.hid ((hb.block _ (bk_lt HP6.out)).trans HP6.out); replace HB2 := Lib.hid (HB2.out.trans (hb.mono HB2.out.size)); clear hb)
              | (refine wpList_store_row rfl 142 (.tmp 6) (.tmp 40) rfl g6 (plC Y) rfl rfl 142 _ HP6.out (by rw [plC_size]; kernel_rfl) (by rw [plC_size, plC_size]) (plC_one _) ?_))
            replace HP6 := Lib.hid (setRow_heap _ _ _ (plC Y) _ _ HP6.out)
            replace HB2 := Lib.hid (below_setRow HB2.out (Nat.le_of_eq HG6.out.symm) (plC Y))
            generalize w5.setRow g6 (plC Y) = w6 at *
            go_wp2_with (fail)
            go_roundw
            case rel => exact ⟨k + 1, by omega, by go_num, Lib.hid (HSO.out hok), HB2, Lib.hid (by rw [HSN.out]; exact HP6.out)⟩
            case measure => simp [intOf]; omega
          · have hm3 : (4294967296 : Int) < s.many := by omega
            have HF0 := HFN.out (by
              cases hc : S.all okS with
              | false => rfl
              | true =>
                have := List.all_eq_true.1 hc s HSM.out
                unfold okS at this
                simp only [Bool.and_eq_true, decide_eq_true_eq] at this
                omega)
            have HF := Lib.hid HF0
            have HM4 := Lib.hid (M2.out.call HB2.out)
            clear HF0
            clear hm2
            go_wp2_with (first
              | (refine wpList_builtZ rfl rfl ?_)
              | (refine wpList_store_row rfl 142 (.tmp 4) (.tmp 36) rfl (w.heap.size + 1 + 1) (plC plZ) rfl rfl 142 _ HM4.out.h4 (by rw [plC_size]; kernel_rfl) (by rw [plC_size]) (plC_one _) ?_))
            refine bodyPost_ret (results_cell_tmp_row rfl _ _ (w.heap.size + 1 + 1) 142 (plC plZ) (0, 0) _ rfl (setRow_heap _ _ _ _ _ _ HM4.out.h4) Tryz.underlying142 rfl (by rw [plC_size]; kernel_rfl)) rfl ?_
            exact ⟨by rw [HF.out]; rfl, below_setRow HM4.out.below (by omega) _⟩
      · obtain rfl : k = S.length := by omega
        have M := Lib.hid (M2.out.call HB2.out)
        rw [List.take_length] at HOK HP6
        have HF := HFE.out HOK.out
        obtain ⟨X, hX⟩ : ∃ X, X = S.foldl upP (LF, 0, 1) := ⟨_, rfl⟩
        rw [← hX] at HP6 HF
        clear hX HOK HFE HFN
        cases hq : eqB X.1 R with
        | true =>
          rw [hq] at HF
          replace HF := Lib.hid HF
          go_wp2_with (first
            | (refine wpList_load_rowsz (by rfl) 62 (.tmp 42) rfl g6 0 rfl (rowOf .u8 32 X.1) _ (pl_cells HP6.out).1 Tryz.underlying62 rfl (by rw [rowOf_size]; kernel_rfl) ?_)
            | (refine wpList_load_row rfl 62 (.tmp 2) rfl w.heap.size rfl 62 _ (0, 0) _ M.out.h2 Tryz.underlying62 rfl (by rw [rowOf_size]; kernel_rfl) ?_)
            | (refine wpList_neq32 (by rfl) (.tmp 43) (.tmp 44) rfl X.1 R true rfl rfl hq ?_)
            | (refine wpList_load_row rfl 142 (.tmp 6) rfl g6 rfl 142 _ (0, 0) _ HP6.out Tryz.underlying142 rfl (by rw [plC_size]; kernel_rfl) ?_)
            | (refine wpList_store_row rfl 142 (.tmp 4) (.tmp 48) rfl (w.heap.size + 1 + 1) (plC X) rfl rfl 142 _ M.out.h4 (by rw [plC_size]; kernel_rfl) (by rw [plC_size, plC_size]) (plC_one _) ?_))
          refine bodyPost_ret (results_cell_tmp_row rfl _ _ (w.heap.size + 1 + 1) 142 (plC X) (0, 0) _ rfl (setRow_heap _ _ _ _ _ _ M.out.h4) Tryz.underlying142 rfl (by rw [plC_size]; kernel_rfl)) rfl ?_
          exact ⟨by rw [HF.out]; rfl, below_setRow M.out.below (by omega) _⟩
        | false =>
          rw [hq] at HF
          replace HF := Lib.hid HF
          go_wp2_with (first
            | (refine wpList_load_rowsz (by rfl) 62 (.tmp 42) rfl g6 0 rfl (rowOf .u8 32 X.1) _ (pl_cells HP6.out).1 Tryz.underlying62 rfl (by rw [rowOf_size]; kernel_rfl) ?_)
            | (refine wpList_load_row rfl 62 (.tmp 2) rfl w.heap.size rfl 62 _ (0, 0) _ M.out.h2 Tryz.underlying62 rfl (by rw [rowOf_size]; kernel_rfl) ?_)
            | (refine wpList_neq32 (by rfl) (.tmp 43) (.tmp 44) rfl X.1 R false rfl rfl hq ?_)
            | (refine wpList_builtZ rfl rfl ?_)
            | (refine wpList_store_row rfl 142 (.tmp 4) (.tmp 46) rfl (w.heap.size + 1 + 1) (plC plZ) rfl rfl 142 _ M.out.h4 (by rw [plC_size]; kernel_rfl) (by rw [plC_size]) (plC_one _) ?_))
          refine bodyPost_ret (results_cell_tmp_row rfl _ _ (w.heap.size + 1 + 1) 142 (plC plZ) (0, 0) _ rfl (setRow_heap _ _ _ _ _ _ M.out.h4) Tryz.underlying142 rfl (by rw [plC_size]; kernel_rfl)) rfl ?_
          exact ⟨by rw [HF.out]; rfl, below_setRow M.out.below (by omega) _⟩
/-- Verify's answer -/
def verF (R : Nat → Int) (key val : ByteArray) (p : PvP) : Option Nat := if p.key = key ∧ p.val = val then e23 (followF R p) else some 23
def VePost (R : Nat → Int) (key val : ByteArray) (p : PvP) (w : World) (e : Ending) (w' : World) : Prop := e = .returned (errV (verF R key val p)) ∧ Below w.heap.size w w'
set_option maxHeartbeats 4000000 in
theorem verify_any (R : Nat → Int) (key val : ByteArray) (p : PvP) (v : Value) (w : World) (he : Env w) (hst : StIn w v p.steps) (hz : p.key.size + p.val.size ≤ 140737488351232) :
    Calls Tryz.prog 50 #[.agg (rowOf .u8 32 R), .string key, .string val, .agg (prC p v)] w (VePost R key val p w) := by
  have HFO := Lib.hid (fun w he hst => follow_any R p v w he hst hz)
  unfold FoPost at HFO
  unfold VePost
  have hb0 : Below w.heap.size w ((w.alloc (.cells (rowOf .u8 32 R) 62)).alloc (.cells (prC p v) 31)) := ((Below.refl _ w).alloc (Nat.le_refl _) _).alloc (by simp) _
  have H4 := Lib.hid (show ((w.alloc (.cells (rowOf .u8 32 R) 62)).alloc (.cells (prC p v) 31)).heap[w.heap.size]? = some (.cells (rowOf .u8 32 R) 62 (0, 0)) by rw [heap_alloc_old _ _ (by simp), heap_alloc_new])
  have H7 := Lib.hid (show ((w.alloc (.cells (rowOf .u8 32 R) 62)).alloc (.cells (prC p v) 31)).heap[w.heap.size + 1]? = some (.cells (prC p v) 31 (0, 0)) by
    have := heap_alloc_new (w.alloc (.cells (rowOf .u8 32 R) 62)) (.cells (prC p v) 31)
    rw [size_alloc] at this; exact this)
  have HE := Lib.hid (he.below hb0 he.lt)
  have HST := Lib.hid (hst.below hb0)
  have HB := Lib.hid hb0
  obtain ⟨VF, hVF⟩ : ∃ x, x = verF R key val p := ⟨_, rfl⟩
  rw [← hVF]
  have HVF := Lib.hid hVF
  obtain ⟨fo, hfo⟩ : ∃ x, x = followF R p := ⟨_, rfl⟩
  rw [← hfo] at HFO
  have HFF := Lib.hid hfo
  clear he hst hz hb0 hVF hfo
  go_enter Tryz.func50, Tryz.ntmps50
  go_upto_region 1 with (fail)
  generalize (w.alloc (.cells (rowOf .u8 32 R) 62)).alloc (.cells (prC p v) 31) = w1 at *
  have c0 : w1.cell? ⟨w.heap.size + 1, 0, none⟩ = some (.string p.key) := cell_of_row w1 _ 0 _ _ _ H7.out
  have c1 : w1.cell? ⟨w.heap.size + 1, 1, none⟩ = some (.string p.val) := cell_of_row w1 _ 1 _ _ _ H7.out
  have c2 : w1.cell? ⟨w.heap.size + 1, 2, none⟩ = some v := cell_of_row w1 _ 2 _ _ _ H7.out
  by_cases hk : p.key = key
  · have hk1 : (p.key.toList == key.toList) = true := by rw [hk]; exact sbeq_self _
    by_cases hv : p.val = val
    · have hv1 : (p.val.toList == val.toList) = true := by rw [hv]; exact sbeq_self _
      have HV2 := Lib.hid (show VF = e23 fo by rw [HVF.out, HFF.out]; unfold verF; rw [if_pos ⟨hk, hv⟩])
      clear hk hv HVF
      go_wp2_with (first
        | (refine wpList_load_row rfl 62 (.tmp 4) rfl w.heap.size rfl 62 _ (0, 0) _ H4.out Tryz.underlying62 rfl (by rw [rowOf_size]; kernel_rfl) ?_)
        | (refine wpList_load_row rfl 31 (.tmp 7) rfl (w.heap.size + 1) rfl 31 _ (0, 0) _ H7.out Tryz.underlying31 rfl (by kernel_rfl) ?_)
        | (go_at_call 76; (with_reducible refine (HFO.out _ HE.out HST.out).mono ?_); rintro e w2 ⟨rfl, hb⟩; replace HB := Lib.hid (HB.out.trans (hb.mono HB.out.size)); clear hb c0 c1 c2)
        | (refine wpList_store_row rfl 142 (.tmp 9) (.tmp 26) rfl w2.heap.size (plC (fo.getD plZ)) rfl rfl 142 _ (heap_alloc_new _ _) (by rw [plC_size]; kernel_rfl) (by rw [plC_size]; rfl) (plC_one _) ?_; rw [World.setRow_alloc_new]))
      go_ret
      exact ⟨by rw [HV2.out]; rfl, HB.out.trans ((below_alloc w2 _).mono HB.out.size)⟩
    · have hv1 : (p.val.toList == val.toList) = false := sbeq_ne hv
      have HV2 := Lib.hid (show VF = some 23 by rw [HVF.out]; unfold verF; rw [if_neg (fun h => hv h.2)])
      clear hk hv HVF
      go_wp2_with (fail)
      go_ret
      exact ⟨by rw [HV2.out]; rfl, HB.out⟩
  · have hk1 : (p.key.toList == key.toList) = false := sbeq_ne hk
    have HV2 := Lib.hid (show VF = some 23 by rw [HVF.out]; unfold verF; rw [if_neg (fun h => hk h.1)])
    clear hk HVF
    go_wp2_with (fail)
    go_ret
    exact ⟨by rw [HV2.out]; rfl, HB.out⟩
end Go.Proofs.YtabflppnecemkaaGreatDoor
namespace Go.Proofs.YtabflppnecemkaaGreatDoor
set_option linter.unusedVariables false
set_option linter.unusedSimpArgs false
open Go.RowKit
set_option maxRecDepth 100000
set_option linter.unusedSimpArgs false
set_option linter.unusedVariables false
/-- one proof lies here -/
def PrAt (w : World) (b o : Nat) (p : PvP) : Prop := ∃ sv, w.rangeAt b o [.string p.key, .string p.val, sv] ∧ StIn w sv p.steps
/-- proofs that lie anywhere -/
def PrsIn (w : World) (v : Value) (ps : List PvP) : Prop :=
  ∃ a cap, v = .slice a ps.length cap ∧ ps.length ≤ maxLen ∧ (ps = [] ∨ ∃ b off, a = some ⟨b, off, none⟩ ∧ b < w.heap.size ∧ ∀ i p, ps[i]? = some p → PrAt w b (off + i * 3) p)
theorem PrAt.below {w w' : World} {b o : Nat} {p : PvP} (h : PrAt w b o p) (hb : Below w.heap.size w w') : PrAt w' b o p := by
  obtain ⟨sv, h1, h2⟩ := h
  exact ⟨sv, fun j v hv => (hb.cell (p := ⟨b, o + j, none⟩) (World.block_lt_of_cell? w _ (h1 j v hv))).trans (h1 j v hv), h2.below hb⟩
theorem PrsIn.below {w w' : World} {v : Value} {ps : List PvP} (h : PrsIn w v ps) (hb : Below w.heap.size w w') : PrsIn w' v ps := by
  obtain ⟨a, cap, rfl, hm, h⟩ := h
  exact ⟨a, cap, rfl, hm, h.imp id fun ⟨b, off, e, hl, hh⟩ => ⟨b, off, e, Nat.lt_of_lt_of_le hl hb.size, fun i p hi => (hh i p hi).below hb⟩⟩
theorem PrsIn.at {w : World} {a : Option Addr} {n c : Nat} {ps : List PvP} (h : PrsIn w (.slice a n c) ps) {i : Nat} {p : PvP} (hi : ps[i]? = some p) : ∃ b off, a = some ⟨b, off, none⟩ ∧ PrAt w b (off + i * 3) p := by
  obtain ⟨a', cap, e, _, h⟩ := h
  injection e with e1 _ _
  subst e1
  rcases h with rfl | ⟨b, off, e, _, hh⟩
  · cases hi
  · exact ⟨b, off, e, hh i p hi⟩
theorem PrsIn.len {w : World} {v : Value} {ps : List PvP} (h : PrsIn w v ps) : ∃ a c, v = .slice a ps.length c ∧ ps.length ≤ maxLen := by
  obtain ⟨a, c, e, hm, _⟩ := h
  exact ⟨a, c, e, hm⟩
/-- no proof of the left is at or above the key, none of the right at or below -/
def betF (key : ByteArray) (L R : List PvP) : Bool := L.all (fun p => Op.bytesLess p.key.toList key.toList) && R.all (fun p => !(Op.bytesLess p.key.toList key.toList || p.key.toList == key.toList))
theorem prC_one (p : PvP) (a : Option Addr) (n c : Nat) : (prC p (.slice a n c)).all (·.oneCell') = true := by simp [prC, Value.oneCell']
set_option maxHeartbeats 4000000 in
theorem between_any (key : ByteArray) (vl vr : Value) (L R : List PvP) (w : World) (hl : PrsIn w vl L) (hr : PrsIn w vr R) :
    Calls Tryz.prog 78 #[.string key, .agg #[vl, vr]] w fun e w' => e = .returned (.bool (betF key L R)) ∧ Below w.heap.size w w' := by
  obtain ⟨la, lc, rfl, hlm⟩ := hl.len
  obtain ⟨ra, rc, rfl, hrm⟩ := hr.len
  have HL := Lib.hid hl
  have HR := Lib.hid hr
  have hlI : (L.length : Int) ≤ 9223372036854775807 := by unfold maxLen at hlm; omega
  have hrI : (R.length : Int) ≤ 9223372036854775807 := by unfold maxLen at hrm; omega
  clear hl hr hlm hrm
  obtain ⟨B, hB⟩ : ∃ B, B = betF key L R := ⟨_, rfl⟩
  rw [← hB]
  have HBE := Lib.hid hB
  clear hB
  go_enter Tryz.func78, Tryz.ntmps78
  go_upto_region 1 with (fail)
  have c0 : (w.alloc (.cells #[.slice la L.length lc, .slice ra R.length rc] 40)).cell? ⟨w.heap.size, 0, none⟩ = some (.slice la L.length lc) := cell_of_row _ _ 0 _ _ _ (heap_alloc_new w _)
  have H3 := Lib.hid (heap_alloc_new w (.cells #[.slice la L.length lc, .slice ra R.length rc] 40))
  have HB0 := Lib.hid (below_alloc w (.cells #[.slice la L.length lc, .slice ra R.length rc] 40))
  generalize w.alloc (.cells #[.slice la L.length lc, .slice ra R.length rc] 40) = w1 at *
  obtain ⟨q, hq⟩ : ∃ q, q = w.heap.size := ⟨_, rfl⟩
  rw [← hq] at c0 H3 ⊢
  clear hq
  have d0 : w1.cell? ⟨q, 1, none⟩ = some (.slice ra R.length rc) := cell_of_row _ _ 1 _ _ _ H3.out
  have HW1 := Lib.hid (Below.refl w1.heap.size w1)
  have HQ1 := Lib.hid (bk_lt H3.out)
  replace HL := Lib.hid (HL.out.below HB0.out)
  replace HR := Lib.hid (HR.out.below HB0.out)
  go_wp2_with (fail)
  clear c0 d0
  go_loopw [12] (fun x wr => ∃ k : Nat, k ≤ L.length ∧ x = .int .i64 (k : Int) ∧ Hid ((L.take k).all (fun p => Op.bytesLess p.key.toList key.toList) = true) ∧ Hid (Below w1.heap.size w1 wr)) (fun x _ => L.length - (intOf x).toNat)
  case atStart => exact ⟨0, Nat.zero_le _, rfl, Lib.hid rfl, HW1⟩
  case round =>
    clear HW1
    obtain ⟨k, hkl, rfl, HK, HW1⟩ := hrel
    by_cases hlt : k < L.length
    · obtain ⟨p, hp⟩ : ∃ p, L[k]? = some p := ⟨_, List.getElem?_eq_getElem hlt⟩
      obtain ⟨b, off, rfl, hpa⟩ := HL.out.at hp
      obtain ⟨sv, hrg, hst⟩ := hpa.below HW1.out
      obtain ⟨sa, sc, rfl⟩ := hst.len
      have HRG := Lib.hid hrg
      have HP := Lib.hid hp
      have hltI : (k : Int) < (L.length : Int) := by omega
      clear hp hpa hrg hst
      cases hb : Op.bytesLess p.key.toList key.toList with
      | true =>
        go_wp2_with (first
          | (refine wpList_load_rowsz (by rfl) 31 (.tmp 14) rfl b (off + k * 3) rfl (prC p (.slice sa p.steps.length sc)) _ HRG.out Tryz.underlying31 rfl (by kernel_rfl) ?_)
          | (refine wpList_store_row rfl 31 (.tmp 6) (.tmp 15) rfl wr.heap.size (prC p (.slice sa p.steps.length sc)) rfl rfl 31 _ (heap_alloc_new _ _) (by kernel_rfl) rfl (prC_one _ _ _ _) ?_; rw [World.setRow_alloc_new]; have k0 : (wr.alloc (.cells (prC p (.slice sa p.steps.length sc)) 31)).cell? ⟨wr.heap.size, 0, none⟩ = some (.string p.key) := cell_of_row _ _ 0 _ _ _ (heap_alloc_new wr _)))
        go_roundw
        case rel => exact ⟨k + 1, by omega, by go_num, Lib.hid (by rw [List.take_add_one, HP.out]; simp [HK.out, hb]), Lib.hid (HW1.out.trans ((below_alloc wr _).mono HW1.out.size))⟩
        case measure => simp [intOf]; omega
      | false =>
        have HF := Lib.hid (show B = false from by rw [HBE.out]; unfold betF; rw [Bool.and_eq_false_iff]; left; rw [List.all_eq_false]; exact ⟨p, List.mem_of_getElem? HP.out, by rw [hb]; simp⟩)
        go_wp2_with (first
          | (refine wpList_load_rowsz (by rfl) 31 (.tmp 14) rfl b (off + k * 3) rfl (prC p (.slice sa p.steps.length sc)) _ HRG.out Tryz.underlying31 rfl (by kernel_rfl) ?_)
          | (refine wpList_store_row rfl 31 (.tmp 6) (.tmp 15) rfl wr.heap.size (prC p (.slice sa p.steps.length sc)) rfl rfl 31 _ (heap_alloc_new _ _) (by kernel_rfl) rfl (prC_one _ _ _ _) ?_; rw [World.setRow_alloc_new]; have k0 : (wr.alloc (.cells (prC p (.slice sa p.steps.length sc)) 31)).cell? ⟨wr.heap.size, 0, none⟩ = some (.string p.key) := cell_of_row _ _ 0 _ _ _ (heap_alloc_new wr _)))
        go_ret
        exact ⟨by rw [HF.out]; rfl, (HB0.out.trans (HW1.out.mono HB0.out.size)).trans ((below_alloc wr _).mono (Nat.le_trans HB0.out.size HW1.out.size))⟩
    · obtain rfl : k = L.length := by omega
      rw [List.take_length] at HK
      have d0 : wr.cell? ⟨q, 1, none⟩ = some (.slice ra R.length rc) := by rw [cell_of_row _ _ 1 _ _ _ ((HW1.out.block _ HQ1.out).trans H3.out)]; rfl
      have HB1 := Lib.hid (HB0.out.trans (HW1.out.mono HB0.out.size))
      have HR1 := Lib.hid (HR.out.below HW1.out)
      have HS1 := Lib.hid (show w.heap.size ≤ wr.heap.size from Nat.le_trans HB0.out.size HW1.out.size)
      clear hlt hkl HL HR HW1 H3 HB0
      generalize wr = w2 at *
      have HW2 := Lib.hid (Below.refl w2.heap.size w2)
      go_wp2_with (fail)
      clear d0
      go_loopw [24] (fun x wr => ∃ k : Nat, k ≤ R.length ∧ x = .int .i64 (k : Int) ∧ Hid ((R.take k).all (fun p => !(Op.bytesLess p.key.toList key.toList || p.key.toList == key.toList)) = true) ∧ Hid (Below w2.heap.size w2 wr)) (fun x _ => R.length - (intOf x).toNat)
      case atStart => exact ⟨0, Nat.zero_le _, rfl, Lib.hid rfl, HW2⟩
      case round =>
        clear HW2
        obtain ⟨k, hkl, rfl, HK2, HW2⟩ := hrel
        by_cases hlt : k < R.length
        · obtain ⟨p, hp⟩ : ∃ p, R[k]? = some p := ⟨_, List.getElem?_eq_getElem hlt⟩
          obtain ⟨b, off, rfl, hpa⟩ := HR1.out.at hp
          obtain ⟨sv, hrg, hst⟩ := hpa.below HW2.out
          obtain ⟨sa, sc, rfl⟩ := hst.len
          have HRG := Lib.hid hrg
          have HP := Lib.hid hp
          have hltI : (k : Int) < (R.length : Int) := by omega
          clear hp hpa hrg hst
          cases hb : (Op.bytesLess p.key.toList key.toList || p.key.toList == key.toList) with
          | false =>
            go_wp2_with (first
              | (refine wpList_load_rowsz (by rfl) 31 (.tmp 26) rfl b (off + k * 3) rfl (prC p (.slice sa p.steps.length sc)) _ HRG.out Tryz.underlying31 rfl (by kernel_rfl) ?_)
              | (refine wpList_store_row rfl 31 (.tmp 8) (.tmp 27) rfl wr.heap.size (prC p (.slice sa p.steps.length sc)) rfl rfl 31 _ (heap_alloc_new _ _) (by kernel_rfl) rfl (prC_one _ _ _ _) ?_; rw [World.setRow_alloc_new]; have k0 : (wr.alloc (.cells (prC p (.slice sa p.steps.length sc)) 31)).cell? ⟨wr.heap.size, 0, none⟩ = some (.string p.key) := cell_of_row _ _ 0 _ _ _ (heap_alloc_new wr _)))
            go_roundw
            case rel => exact ⟨k + 1, by omega, by go_num, Lib.hid (by rw [List.take_add_one, HP.out, List.all_append, HK2.out]; simp only [Option.toList_some, List.all_cons, List.all_nil, hb]; rfl), Lib.hid (HW2.out.trans ((below_alloc wr _).mono HW2.out.size))⟩
            case measure => simp [intOf]; omega
          | true =>
            have HF := Lib.hid (show B = false from by rw [HBE.out]; unfold betF; rw [Bool.and_eq_false_iff]; right; rw [List.all_eq_false]; exact ⟨p, List.mem_of_getElem? HP.out, by rw [hb]; simp⟩)
            go_wp2_with (first
              | (refine wpList_load_rowsz (by rfl) 31 (.tmp 26) rfl b (off + k * 3) rfl (prC p (.slice sa p.steps.length sc)) _ HRG.out Tryz.underlying31 rfl (by kernel_rfl) ?_)
              | (refine wpList_store_row rfl 31 (.tmp 8) (.tmp 27) rfl wr.heap.size (prC p (.slice sa p.steps.length sc)) rfl rfl 31 _ (heap_alloc_new _ _) (by kernel_rfl) rfl (prC_one _ _ _ _) ?_; rw [World.setRow_alloc_new]; have k0 : (wr.alloc (.cells (prC p (.slice sa p.steps.length sc)) 31)).cell? ⟨wr.heap.size, 0, none⟩ = some (.string p.key) := cell_of_row _ _ 0 _ _ _ (heap_alloc_new wr _)))
            go_ret
            exact ⟨by rw [HF.out]; rfl, (HB1.out.trans (HW2.out.mono HS1.out)).trans ((below_alloc wr _).mono (Nat.le_trans HS1.out HW2.out.size))⟩
        · obtain rfl : k = R.length := by omega
          rw [List.take_length] at HK2
          have HF := Lib.hid (show B = true from by rw [HBE.out]; unfold betF; rw [HK.out, HK2.out]; rfl)
          clear hlt hkl
          go_wp2_with (fail)
          go_ret
          exact ⟨by rw [HF.out]; rfl, HB1.out.trans (HW2.out.mono HS1.out)⟩
end Go.Proofs.YtabflppnecemkaaGreatDoor

/- Part 31 of the proof. -/
import Derived.BigFrame
import Derived.Deep.DeepCutAuto
import Derived.Test.YtilpohdidekenaaGreatDoorKl1
import Derived.Test.YtilpohdidekenaaGreatDoorKl2
import Derived.Test.YtilpohdidekenaaGreatDoorKl17
import Derived.Test.YtilpohdidekenaaGreatDoorKl24
import Derived.Test.YtilpohdidekenaaGreatDoorKl30
namespace Go.Proofs.YtilpohdidekenaaGreatDoor
set_option linter.unusedVariables false
set_option linter.unusedSimpArgs false
open Go.RowKit
set_option maxRecDepth 100000
def digestF (text : List Int) (n : Nat) : List Int := rowL n (sumF (4 :: text))
theorem rowL_take (f : Nat → Int) (n : Nat) : (rowL n f).length = n := by simp [rowL]
theorem sliceAn (b n : Nat) (hn : n ≤ 32) (w : World) : (Instr.sliceAt 23 (.pointer (some ⟨b, 0, none⟩)) none (some (.int .i64 (n : Int))) none).run Tryz.prog w = .ok (.slice (some ⟨b, 0, none⟩) n 32) w := by
  have ha : Tryz.prog.arrayLen 23 = 32 := by kernel_rfl
  have he : Tryz.prog.elem 23 = 5 := by kernel_rfl
  have hs : (sizeOf 5).run Tryz.prog w = .ok 1 w := by kernel_rfl
  rw [run_sliceAt_array_h w 23 ⟨b, 0, none⟩ (by rw [ha, he]; exact Tryz.underlying23) .i64 (n : Int) (by omega) (by rw [ha]; omega), ha, he, hs]
  simp only [Result.andThen_ok, slicedAt, Int.toNat_natCast]
  rfl
theorem wdigest_no (v : Value) (n : Int) (w : World) (h : n < 1 ∨ 32 < n) :
    Calls Tryz.prog 66 #[v, .int .i64 n] w fun e w' => e = .returned (.tuple #[.slice none 0 0, errV (some 1)]) ∧ w = w' := by
  replace h := Lib.hid h
  go_enter Tryz.func66, Tryz.ntmps66
  go_wp2_with (go_at_call 98; (with_reducible refine (wlen_no n _ h.out).mono ?_); rintro e w' ⟨rfl, rfl⟩)
  go_ret2
  exact ⟨rfl, rfl⟩
theorem rdigest_no (v : Value) (n : Int) (w : World) (h : n < 1 ∨ 32 < n) :
    Calls Tryz.prog 37 #[v, .int .i64 n] w fun e w' => e = .returned (.tuple #[.slice none 0 0, .int .i64 1]) ∧ w = w' := by
  by_cases h1 : n < 1
  · have e1 : decide (n < 1) = true := by simpa using h1
    clear h
    go_enter Tryz.func37, Tryz.ntmps37
    go_wp2
    go_ret2
    exact ⟨rfl, rfl⟩
  · have e1 : decide (n < 1) = false := by simpa using h1
    have h2 : 32 < n := by omega
    clear h
    go_enter Tryz.func37, Tryz.ntmps37
    go_wp2
    go_ret2
    exact ⟨rfl, rfl⟩
set_option maxHeartbeats 1000000 in
theorem wdigest_ok (v : Value) (xs : List Int) (n : Nat) (w : World) (hx : BytesIn w v xs) (he : Env w) (hn : 1 ≤ n ∧ n ≤ 32) :
    Calls Tryz.prog 66 #[v, .int .i64 (n : Int)] w fun e w' => ∃ v', e = .returned (.tuple #[v', errV none]) ∧ BytesIn w' v' (digestF xs n) ∧ Below w.heap.size w w' := by
  have HN := Lib.hid hn
  have hnb := hn.2
  have hn0 : ¬ (2 * (n : Int) + 3 = 0) := by omega
  have HB1 := below_alloc w (.cells (hashCells BT (fun _ => 0) 0) 212)
  have HC := Lib.hid he.lt
  have HX := Lib.hid (hx.at (g := w.heap.size) HB1 (Nat.le_refl _) (Nat.le_refl _))
  have HE := Lib.hid he
  have HE1 := Lib.hid (he.below HB1 he.lt)
  have HH := Lib.hid (show HashAt (w.alloc (.cells (hashCells BT (fun _ => 0) 0) 212)) w.heap.size h0.s h0.b h0.n from heap_alloc_new w _)
  replace HB1 := Lib.hid HB1
  clear he hx hn
  go_enter Tryz.func66, Tryz.ntmps66
  go_upto_region 4 with (first
    | (go_at_call 98; (with_reducible refine (wlen_ok n _ HN.out.1 HN.out.2).mono ?_); rintro e w' ⟨rfl, rfl⟩)
    | (go_at_call 94; (with_reducible refine (shNew_any _ HE.out).mono ?_); rintro e w' ⟨rfl, rfl⟩))
  generalize w.alloc (.cells (hashCells BT (fun _ => 0) 0) 212) = w1 at *
  obtain ⟨g, hg⟩ : ∃ g, g = w.heap.size := ⟨_, rfl⟩
  rw [← hg] at HX HH ⊢
  replace hg := Lib.hid hg
  have ha := below_alloc w1 (.cells #[.int .u8 4] 5)
  have HHa := Lib.hid (HH.out.below ha HH.out.lt)
  have HEa := Lib.hid (HE1.out.below ha HE1.out.lt)
  have HO1 := Lib.hid (oneAt w1 g HH.out.lt 4)
  have HX1 := Lib.hid (HX.out.below' ha)
  have HB2 := Lib.hid (HB1.out.trans (ha.mono HB1.out.size))
  have HG := Lib.hid (show 3 < g from by rw [hg.out]; exact HC.out)
  clear ha HE1 HX HH HB1
  go_upto_region 5 with (go_at_call 95; (with_reducible refine (shWrite_any g _ _ _ [4] _ _ HHa.out (by decide) (by decide) HO1.out HEa.out HG.out).mono ?_); rintro e w2 ⟨rfl, HH2, HO⟩; have HH2 := Lib.hid HH2; have HX2 := Lib.hid (HX1.out.only HO); have HE2 := Lib.hid (HO.env HEa.out HG.out); have HB3 := Lib.hid (HB2.out.trans (HO.below (by rw [hg.out]; exact Nat.le_refl _) HB2.out.size)); clear HO)
  have hb1 := putF_bounds h0 (by decide) (by decide) [4]
  have HBD1 := Lib.hid hb1
  clear hb1 HHa HX1 HEa HO1 HB2
  go_upto_region 6 with (go_at_call 95; (with_reducible refine (shWrite_any g _ _ _ xs v _ HH2.out HBD1.out.1 HBD1.out.2 HX2.out HE2.out HG.out).mono ?_); rintro e w3 ⟨rfl, HH3, HO⟩; have HH3 := Lib.hid HH3; have HE3 := Lib.hid (HO.env HE2.out HG.out); have HB4 := Lib.hid (HB3.out.trans (HO.below (by rw [hg.out]; exact Nat.le_refl _) HB3.out.size)); clear HO)
  have hb2 := putF_bounds (putF h0 [4]) HBD1.out.1 HBD1.out.2 xs
  have HBD2 := Lib.hid hb2
  clear hb2 HH2 HX2 HE2 HB3
  go_upto_region 7 with (first
    | (go_at_call 96; (with_reducible refine (sumM_any g _ _ _ _ HH3.out HBD2.out.1 HBD2.out.2 HE3.out.consts).mono ?_); rintro e w4 ⟨rfl, hb⟩; have HB5 := Lib.hid (HB4.out.trans (hb.mono HB4.out.size)); clear hb; rw [show outF (finF (putF (putF h0 [4]) xs).s (putF (putF h0 [4]) xs).b (putF (putF h0 [4]) xs).n ((putF (putF h0 [4]) xs).n % 64).toNat) = sumF (4 :: xs) from rfl])
    | (refine wpList_store_row rfl 23 (.tmp 7) (.tmp 20) rfl w4.heap.size (rowOf .u8 32 (sumF (4 :: xs))) rfl rfl 23 _ (heap_alloc_new _ _) (by rw [rowOf_size]; kernel_rfl) rfl (rowOf_one _ _ _) ?_; rw [World.setRow_alloc_new]; have HR := Lib.hid (RowAt.new w4 .u8 32 23 (sumF (4 :: xs))); have HB6 := Lib.hid (HB5.out.trans ((below_alloc w4 (.cells (rowOf .u8 32 (sumF (4 :: xs))) 23)).mono HB5.out.size)); generalize w4.heap.size = gr at *; generalize w4.alloc (.cells (rowOf .u8 32 (sumF (4 :: xs))) 23) = w5 at *))
  have hsl := sliceAn gr n hnb
  have HY := Lib.hid (row_in (k := n) (c := 32) HR.out hnb hnb (by unfold maxLen; omega))
  have HO0 := Lib.hid (World.ownsRow_nil w5 w5.heap.size 5 1)
  go_wp2_with (at_builtin; refine wpList_append_bytes rfl (.const (.slice none 0 0)) (.tmp 22) rfl rfl w5.heap.size _ 0 [] rfl HO0.out _ (rowL n (sumF (4 :: xs))) rfl HY.out (by rw [rowL_length]; omega) (Nat.le_refl _) ?_; intro v' w6 ho hg2 _; have HI := Lib.hid (owns_in (xs := rowL n (sumF (4 :: xs))) (by rw [Nat.zero_add, List.nil_append] at ho; exact ho) (by rw [rowL_length]; unfold maxLen; omega)); have HB7 := Lib.hid (HB6.out.trans (((Below.refl _ _).grown hg2 (Nat.le_refl _) (fun k hk => by cases hk)).mono HB6.out.size)); clear ho hg2)
  go_ret2
  exact ⟨_, rfl, HI.out, HB7.out⟩
set_option maxHeartbeats 1000000 in
theorem rdigest_ok (v : Value) (xs : List Int) (n : Nat) (w : World) (hx : BytesIn w v xs) (hl : xs.length + 81 ≤ 140737488355328) (hn : 1 ≤ n ∧ n ≤ 32) :
    Calls Tryz.prog 37 #[v, .int .i64 (n : Int)] w fun e w' => ∃ v', e = .returned (.tuple #[v', .int .i64 0]) ∧ BytesIn w' v' (digestF xs n) ∧ Below w.heap.size w w' := by
  have HL := Lib.hid hl
  have hnb := hn.2
  have hn1 := hn.1
  have e1 : decide ((n : Int) < 1) = false := by simp; omega
  have HB0 := Lib.hid (below_alloc w (.cells #[.int .u8 4] 5))
  have HX := Lib.hid (hx.below HB0.out)
  have HO := Lib.hid (show (w.alloc (.cells #[.int .u8 4] 5)).ownsRow w.heap.size 5 1 (.slice (some ⟨w.heap.size, 0, none⟩) 1 1) 1 [.int .u8 4] from World.ownsRow_lit (w := w) (base := w.heap.size) (e := 5) (size := 1) #[.int .u8 4] 1 (Nat.le_refl _) (by simp [maxLen]) rfl)
  clear hx hl hn
  go_enter Tryz.func37, Tryz.ntmps37
  go_upto_region 4 with (first
    | (at_builtin; refine wpList_append_bytes rfl (.tmp 13) (.tmp 14) rfl rfl w.heap.size _ 1 [.int .u8 4] rfl HO.out v xs rfl HX.out (by have := HL.out; omega) (by simp) ?_; intro v' w1 ho hg _; have HX1 := Lib.hid (owns_in (xs := 4 :: xs) (by have h := ho; rw [Nat.add_comm 1 xs.length] at h; exact h) (by have := HL.out; unfold maxLen; simp; omega)); have HB1 := Lib.hid (HB0.out.grown hg HB0.out.size (fun k hk => (HO.out.lt k hk).1)); clear ho hg)
    | (go_at_call 52; (with_reducible refine (rsum_any _ _ _ HX1.out (by have := HL.out; simp; omega)).mono ?_); rintro e w4 ⟨rfl, hb⟩; have HB5 := Lib.hid (HB1.out.trans (hb.mono HB1.out.size)); clear hb)
    | (refine wpList_store_row rfl 23 (.tmp 6) (.tmp 16) rfl w4.heap.size (rowOf .u8 32 (sumF (4 :: xs))) rfl rfl 23 _ (heap_alloc_new _ _) (by rw [rowOf_size]; kernel_rfl) rfl (rowOf_one _ _ _) ?_; rw [World.setRow_alloc_new]; have HR := Lib.hid (RowAt.new w4 .u8 32 23 (sumF (4 :: xs))); have HB6 := Lib.hid (HB5.out.trans ((below_alloc w4 (.cells (rowOf .u8 32 (sumF (4 :: xs))) 23)).mono HB5.out.size)); generalize w4.heap.size = gr at *; generalize w4.alloc (.cells (rowOf .u8 32 (sumF (4 :: xs))) 23) = w5 at *))
  have hsl := sliceAn gr n hnb
  go_wp2_with (fail)
  go_ret2
  exact ⟨_, rfl, row_in (k := n) (c := 32) HR.out hnb hnb (by unfold maxLen; omega), HB6.out⟩
end Go.Proofs.YtilpohdidekenaaGreatDoor
namespace Go.Proofs.YtilpohdidekenaaGreatDoor
set_option linter.unusedVariables false
set_option linter.unusedSimpArgs false
open Go.RowKit
set_option maxRecDepth 100000
theorem wpList_load_row_want {ops : Array Oper} {rest : List Oper} {op : Oper} {a : Act} {w : World} {Q : Exit → Act → World → Prop} (hw : Region.wanted op (yielded ops a.tmps) = true) (ty : TypeId) (x : Operand) (ho : op.op = .load ty x)
    (b : Nat) (hx : a.eval x = .pointer (some ⟨b, 0, none⟩)) (k : IntKind) (n : Nat) (f : Nat → Int) (d : TypeDesc) (R : RowAt w b k n ty f)
    (hu : Tryz.prog.underlying ty = some d) (hd : d.isRow = true) (hi : (Tryz.prog.info? ty).map (·.size) = some n)
    (h : wpList Tryz.prog ops Q rest (a.put op.dst (.agg (rowOf k n f))) w) : wpList Tryz.prog ops Q (op :: rest) a w :=
  BigFrame.wpList_want hw fun _ hK => wp_load_mid ty x ho b 0 hx (rowOf k n f).toList d R.range hu hd (by rw [hi]; simp [rowOf]) (hK _ _ (by simpa using h))
theorem below_drew {w w' : World} {n : Nat} (h : w' = w.drewN n) : Below w.heap.size w w' := by subst h; exact ⟨rfl, rfl, rfl, Nat.le_refl _, fun _ _ => rfl⟩
theorem digF18 : natInts (digF [18]) = [1, 2, 0, 1, 11] := by decide
end Go.Proofs.YtilpohdidekenaaGreatDoor
namespace Go.Proofs.YtilpohdidekenaaGreatDoor
set_option linter.unusedVariables false
set_option linter.unusedSimpArgs false
open Go.ChangeShapes Go.WideShapes Go.ChangeAt Go.RowKit
theorem okWide_arr {P : Program} {w : World} {r : Reach} {base : Nat} {t e : TypeId} {n : Nat} {v : Value} (ht : P.underlying t = some (.array n e)) (h : Value.okWide P w r base t v) : ∃ cs, v = .agg cs ∧ cs.size = P.cellsOf t := by
  simp only [Value.okWide, ht] at h
  obtain ⟨cs, h1, h2, _⟩ := h
  exact ⟨cs, h1, h2⟩
theorem one_take {α : Type} {l : List α} {k : Nat} {v : α} (h : (l.drop k).take 1 = [v]) : l[k]? = some v := by
  have h1 : ((l.drop k).take 1)[0]? = some v := by rw [h]; rfl
  rw [List.getElem?_take, if_pos (by omega), List.getElem?_drop, Nat.add_zero] at h1
  exact h1
theorem arr_raw {H : Type} {enc : TypeId × Value → H} {W : World} {t e : TypeId} {k : IntKind} {n fuel : Nat} {cs : List Value} {x : DataW H × List MemPlace} (ht : Tryz.prog.underlying t = some (.array n e)) (he : Tryz.prog.underlying e = some (.int k)) (hc : Tryz.prog.cellsOf e = 1) (hct : Tryz.prog.cellsOf t = n)
    (h : DataW.trod enc Tryz.prog W 0 (fun _ => true) true fuel t cs = some x) : ∃ F : Nat → Int, cs = (rowOf k n F).toList ∧ ∀ i, i < n → (Lit.int k (F i)).wf = true := by
  obtain ⟨zs, m', _, _, hl, hzl, hzs⟩ := DataW.trod_array ht h
  have key : ∃ F : Nat → Int, ∀ j, j < n → cs[j]? = some (.int k (F j)) ∧ (Lit.int k (F j)).wf = true := by
    refine Deep.choose_lt (p := fun j v => cs[j]? = some (.int k v) ∧ (Lit.int k v).wf = true) fun j hj => ?_
    have h3 := hzs j hj
    rw [hc, Nat.mul_one, List.getElem?_eq_getElem (by omega)] at h3
    obtain ⟨v, hv, _, hw⟩ := DataW.trod_int he h3
    exact ⟨v, one_take hv, hw⟩
  obtain ⟨F, hF⟩ := key
  refine ⟨F, ?_, fun i hi => (hF i hi).2⟩
  apply List.ext_getElem?
  intro i
  rcases Nat.lt_or_ge i n with h1 | h1
  · rw [(hF i h1).1]; simp [rowOf, h1]
  · rw [List.getElem?_eq_none (by rw [hl, hct]; exact h1), List.getElem?_eq_none (by simpa [rowOf] using h1)]
theorem arr_arg {H : Type} {enc : TypeId × Value → H} {W : World} {t e : TypeId} {k : IntKind} {n : Nat} {cs : Array Value} {d : DataW H} {p : List MemPlace} (ht : Tryz.prog.underlying t = some (.array n e)) (he : Tryz.prog.underlying e = some (.int k)) (hc : Tryz.prog.cellsOf e = 1) (hct : Tryz.prog.cellsOf t = n)
    (h : DataW.Trod enc Tryz.prog W 0 (fun _ => true) true t (.agg cs) d p) : ∃ F : Nat → Int, cs = rowOf k n F ∧ ∀ i, i < n → (Lit.int k (F i)).wf = true := by
  obtain ⟨fuel, hf⟩ := h
  obtain ⟨F, h1, h2⟩ := arr_raw ht he hc hct hf
  refine ⟨F, ?_, h2⟩
  have h3 : cs.toList = (rowOf k n F).toList := by simpa [Value.cells] using h1
  exact Array.toList_inj.1 h3
end Go.Proofs.YtilpohdidekenaaGreatDoor
namespace Go.Proofs.YtilpohdidekenaaGreatDoor
set_option linter.unusedVariables false
set_option linter.unusedSimpArgs false
open Go.RowKit
set_option maxRecDepth 100000
end Go.Proofs.YtilpohdidekenaaGreatDoor
namespace Go.Proofs.YtilpohdidekenaaGreatDoor
set_option linter.unusedVariables false
set_option linter.unusedSimpArgs false
open Go.RowKit
set_option maxRecDepth 100000
variable {w w' : World} {F : Nat → Int} {leaf : Int} {v vo : Value} {xs ys : List Int}
theorem wpList_load_rowmid {ops : Array Oper} {rest : List Oper} {op : Oper} {a : Act} {w : World} {Q : Exit → Act → World → Prop} (hgd : op.guard = none) (ty : TypeId) (x : Operand) (ho : op.op = .load ty x)
    (b o : Nat) (hx : a.eval x = .pointer (some ⟨b, o, none⟩)) (k : IntKind) (n : Nat) (f : Nat → Int) (d : TypeDesc) (hc : w.rangeAt b o (rowOf k n f).toList)
    (hu : Tryz.prog.underlying ty = some d) (hd : d.isRow = true) (hi : (Tryz.prog.info? ty).map (·.size) = some n)
    (h : wpList Tryz.prog ops Q rest (a.put op.dst (.agg (rowOf k n f))) w) : wpList Tryz.prog ops Q (op :: rest) a w :=
  wpList_load_mid hgd ty x ho b o hx (rowOf k n f).toList d hc hu hd (by rw [hi]; simp [rowOf]) (by simpa using h)
end Go.Proofs.YtilpohdidekenaaGreatDoor
namespace Go.Proofs.YtilpohdidekenaaGreatDoor
set_option linter.unusedVariables false
set_option linter.unusedSimpArgs false
open Go.RowKit
set_option maxRecDepth 100000
def digR (text : List Int) (n : Int) : List Int × Option Nat := if 1 ≤ n ∧ n ≤ 32 then (digestF text n.toNat, none) else ([], some 1)
theorem wdigest_any (v : Value) (xs : List Int) (n : Int) (w : World) (hx : BytesIn w v xs) (he : Env w) :
    Calls Tryz.prog 66 #[v, .int .i64 n] w fun e w' => ∃ v', e = .returned (.tuple #[v', errV (digR xs n).2]) ∧ BytesIn w' v' (digR xs n).1 ∧ Below w.heap.size w w' := by
  unfold digR
  by_cases h : 1 ≤ n ∧ n ≤ 32
  · rw [if_pos h]
    obtain ⟨k, rfl⟩ : ∃ k : Nat, n = (k : Int) := ⟨n.toNat, by omega⟩
    exact wdigest_ok v xs k w hx he (by omega)
  · rw [if_neg h]
    exact (wdigest_no v n w (by omega)).mono fun _ _ ⟨h1, h2⟩ => ⟨_, h1, nil_in _, by subst h2; exact Below.refl _ _⟩
theorem rdigest_any (v : Value) (xs : List Int) (n : Int) (w : World) (hx : BytesIn w v xs) (hl : xs.length + 81 ≤ 140737488355328) :
    Calls Tryz.prog 37 #[v, .int .i64 n] w fun e w' => ∃ v', e = .returned (.tuple #[v', .int .i64 (numE (digR xs n).2)]) ∧ BytesIn w' v' (digR xs n).1 ∧ Below w.heap.size w w' := by
  unfold digR
  by_cases h : 1 ≤ n ∧ n ≤ 32
  · rw [if_pos h]
    obtain ⟨k, rfl⟩ : ∃ k : Nat, n = (k : Int) := ⟨n.toNat, by omega⟩
    exact rdigest_ok v xs k w hx hl (by omega)
  · rw [if_neg h]
    exact (rdigest_no v n w (by omega)).mono fun _ _ ⟨h1, h2⟩ => ⟨_, h1, nil_in _, by subst h2; exact Below.refl _ _⟩
def pubR (seed : Nat → Int) (leaf : Int) (n : Nat) : (Nat → Int) × Option Nat := if 0 ≤ leaf ∧ leaf < 1024 ∧ 1 ≤ n ∧ n ≤ 32 then (pubF seed leaf n, none) else (zF, some 1)
theorem wpublic_any (seed : Nat → Int) (leaf : Int) (n : Nat) (w : World) (he : Env w) :
    Calls Tryz.prog 49 #[.agg (rowOf .u8 32 seed), .int .i64 leaf, .int .i64 (n : Int)] w fun e w' => e = .returned (.tuple #[.agg (rowOf .u8 32 (pubR seed leaf n).1), errV (pubR seed leaf n).2]) ∧ Below w.heap.size w w' := by
  unfold pubR
  by_cases h : 0 ≤ leaf ∧ leaf < 1024 ∧ 1 ≤ n ∧ n ≤ 32
  · rw [if_pos h]; exact wpublic_ok seed leaf n w he ⟨h.1, h.2.1⟩ h.2.2
  · rw [if_neg h]; exact wpublic_no seed leaf n w (by omega)
theorem rpublic_any (seed : Nat → Int) (leaf : Int) (n : Nat) (w : World) :
    Calls Tryz.prog 55 #[.agg (rowOf .u8 32 seed), .int .i64 leaf, .int .i64 (n : Int)] w fun e w' => e = .returned (.tuple #[.agg (rowOf .u8 32 (pubR seed leaf n).1), .int .i64 (numE (pubR seed leaf n).2)]) ∧ Below w.heap.size w w' := by
  unfold pubR
  by_cases h : 0 ≤ leaf ∧ leaf < 1024 ∧ 1 ≤ n ∧ n ≤ 32
  · rw [if_pos h]; exact rpublic_ok seed leaf n w ⟨h.1, h.2.1⟩ h.2.2
  · rw [if_neg h]; exact rpublic_no seed leaf n w (by omega)
def signR (seed : Nat → Int) (leaf : Int) (xs : List Int) : List Int × Option Nat := if 0 ≤ leaf ∧ leaf < 1024 ∧ 1 ≤ xs.length ∧ xs.length ≤ 32 then (signF seed leaf xs, none) else ([], some 1)
theorem wsign_any (seed : Nat → Int) (leaf : Int) (v : Value) (xs : List Int) (w : World) (he : Env w) (hx : BytesIn w v xs) (hb : bytesOk xs) :
    Calls Tryz.prog 89 #[.agg (rowOf .u8 32 seed), .int .i64 leaf, v] w fun e w' => ∃ v', e = .returned (.tuple #[v', errV (signR seed leaf xs).2]) ∧ BytesIn w' v' (signR seed leaf xs).1 ∧ Below w.heap.size w w' := by
  unfold signR
  by_cases h : 0 ≤ leaf ∧ leaf < 1024 ∧ 1 ≤ xs.length ∧ xs.length ≤ 32
  · rw [if_pos h]
    exact (wsign_ok seed leaf v xs w he ⟨h.1, h.2.1⟩ hx hb h.2.2).mono fun _ _ ⟨v', h1, h2, h3⟩ => ⟨v', h1, owns_in h2 (by rw [signF, chainsF_length, digF_length]; unfold maxLen; omega), h3⟩
  · rw [if_neg h]
    obtain ⟨a, c, rfl, -⟩ := hx
    exact (wsign_no seed leaf a xs.length c w h).mono fun _ _ ⟨h1, h2⟩ => ⟨_, h1, nil_in _, h2⟩
def dR (xs : List Int) : List Nat := if 1 ≤ xs.length ∧ xs.length ≤ 32 then digF xs else []
theorem dR_length (xs : List Int) : (dR xs).length ≤ 67 := by
  unfold dR
  split
  · rw [digF_length]; omega
  · simp
theorem wdigits_any (v : Value) (xs : List Int) (w : World) (hx : BytesIn w v xs) (hb : bytesOk xs) :
    Calls Tryz.prog 115 #[v] w fun e w' => ∃ v', e = .returned v' ∧ IntsIn w' v' (natInts (dR xs)) ∧ Below w.heap.size w w' := by
  unfold dR
  by_cases h : 1 ≤ xs.length ∧ xs.length ≤ 32
  · rw [if_pos h]
    exact (wdigits_ok v xs w hx hb h.1 h.2).mono fun _ _ ⟨v', h1, h2, h3⟩ => ⟨v', h1, owns_ints h2 (by rw [natInts_length, digF_length]; unfold maxLen; omega), h3⟩
  · rw [if_neg h]
    obtain ⟨a, c, rfl, -⟩ := hx
    exact (wdigits_no a xs.length c w (by omega)).mono fun _ _ ⟨h1, h2⟩ => ⟨_, h1, ints_nil _, by subst h2; exact Below.refl _ _⟩
theorem rdigits_any (v : Value) (xs : List Int) (w : World) (hx : BytesIn w v xs) (hb : bytesOk xs) :
    Calls Tryz.prog 70 #[v] w fun e w' => ∃ v', e = .returned v' ∧ IntsIn w' v' (natInts (dR xs)) ∧ Below w.heap.size w w' := by
  unfold dR
  by_cases h : 1 ≤ xs.length ∧ xs.length ≤ 32
  · rw [if_pos h]
    exact (rdigits_ok v xs w hx hb h.1 h.2).mono fun _ _ ⟨v', h1, h2, h3⟩ => ⟨v', h1, owns_ints h2 (by rw [natInts_length, digF_length]; unfold maxLen; omega), h3⟩
  · rw [if_neg h]
    obtain ⟨a, c, rfl, -⟩ := hx
    exact (rdigits_no a xs.length c w (by omega)).mono fun _ _ ⟨h1, h2⟩ => ⟨_, h1, ints_nil _, by subst h2; exact Below.refl _ _⟩
theorem wlen_any (xs : List Int) (n : Nat) (hn : n = xs.length) (w : World) : Calls Tryz.prog 98 #[.int .i64 (n : Int)] w fun e w' => e = .returned (.int .i64 (((dR xs).length : Nat) : Int)) ∧ w = w' := by
  subst hn
  unfold dR
  by_cases h : 1 ≤ xs.length ∧ xs.length ≤ 32
  · rw [if_pos h]
    refine (wlen_ok xs.length w h.1 h.2).mono fun _ _ ⟨h1, h2⟩ => ⟨?_, h2⟩
    rw [h1, digF_length, show ((2 * xs.length + 3 : Nat) : Int) = 2 * (xs.length : Int) + 3 by omega]
  · rw [if_neg h]
    exact (wlen_no (xs.length : Int) w (by omega)).mono fun _ _ ⟨h1, h2⟩ => ⟨h1, h2⟩
variable {w w' : World} {F : Nat → Int} {leaf : Int} {v vo : Value} {xs ys : List Int} {bs : List (Value × List Int)} {rs : List (Nat × (Nat → Int))}
end Go.Proofs.YtilpohdidekenaaGreatDoor
namespace Go.Proofs.YtilpohdidekenaaGreatDoor
set_option linter.unusedVariables false
set_option linter.unusedSimpArgs false
open Go.RowKit
set_option maxRecDepth 100000
def fromR (ss : List Int) (leaf : Int) (xs : List Int) : (Nat → Int) × Option Nat :=
  if 0 ≤ leaf ∧ leaf < 1024 ∧ 1 ≤ xs.length ∧ xs.length ≤ 32 then (if ss.length = 32 * (2 * xs.length + 3) then (fromF ss leaf xs, none) else (zF, some 2)) else (zF, some 1)
theorem wfrom_any (vs : Value) (ss : List Int) (leaf : Int) (v : Value) (xs : List Int) (w : World) (he : Env w) (hs : BytesIn w vs ss) (hx : BytesIn w v xs) (hb : bytesOk xs) :
    Calls Tryz.prog 67 #[vs, .int .i64 leaf, v] w fun e w' => e = .returned (.tuple #[.agg (rowOf .u8 32 (fromR ss leaf xs).1), errV (fromR ss leaf xs).2]) ∧ Below w.heap.size w w' := by
  unfold fromR
  by_cases h : 0 ≤ leaf ∧ leaf < 1024 ∧ 1 ≤ xs.length ∧ xs.length ≤ 32
  · rw [if_pos h]
    by_cases h2 : ss.length = 32 * (2 * xs.length + 3)
    · rw [if_pos h2]
      exact wfrom_ok vs ss leaf v xs w he ⟨h.1, h.2.1⟩ hs hx hb h.2.2 h2
    · rw [if_neg h2]
      obtain ⟨a, c, rfl, -⟩ := hx
      obtain ⟨a', c', rfl, -⟩ := hs
      exact wfrom_long a' ss.length c' leaf a xs.length c w ⟨h.1, h.2.1⟩ h.2.2 h2
  · rw [if_neg h]
    obtain ⟨a, c, rfl, -⟩ := hx
    exact wfrom_no vs leaf a xs.length c w h
theorem rfrom_any (vs : Value) (ss : List Int) (leaf : Int) (v : Value) (xs : List Int) (w : World) (hs : BytesIn w vs ss) (hx : BytesIn w v xs) (hb : bytesOk xs) :
    Calls Tryz.prog 38 #[vs, .int .i64 leaf, v] w fun e w' => e = .returned (.tuple #[.agg (rowOf .u8 32 (fromR ss leaf xs).1), .int .i64 (numE (fromR ss leaf xs).2)]) ∧ Below w.heap.size w w' := by
  unfold fromR
  by_cases h : 0 ≤ leaf ∧ leaf < 1024 ∧ 1 ≤ xs.length ∧ xs.length ≤ 32
  · rw [if_pos h]
    by_cases h2 : ss.length = 32 * (2 * xs.length + 3)
    · rw [if_pos h2]
      exact rfrom_ok vs ss leaf v xs w ⟨h.1, h.2.1⟩ hs hx hb h.2.2 h2
    · rw [if_neg h2]
      obtain ⟨a', c', rfl, -⟩ := hs
      exact rfrom_long a' ss.length c' leaf v xs w ⟨h.1, h.2.1⟩ hx hb h.2.2 h2
  · rw [if_neg h]
    obtain ⟨a, c, rfl, -⟩ := hx
    exact rfrom_no vs leaf a xs.length c w h
variable {w w' : World} {F : Nat → Int} {leaf s0 s1 s2 : Int} {v vo : Value} {xs ys : List Int}
end Go.Proofs.YtilpohdidekenaaGreatDoor

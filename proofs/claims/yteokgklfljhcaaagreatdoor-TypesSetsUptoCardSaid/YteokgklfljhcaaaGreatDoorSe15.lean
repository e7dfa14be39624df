/- Part 15 of the proof. -/
import Derived.Test.YteokgklfljhcaaaGreatDoorSe4
import Derived.Test.YteokgklfljhcaaaGreatDoorSe14
namespace Go.Proofs.YteokgklfljhcaaaGreatDoor
set_option linter.unusedVariables false
set_option linter.unusedSimpArgs false
open Go.RowKit
set_option maxRecDepth 100000
set_option linter.unusedSimpArgs false
set_option linter.unusedVariables false
theorem bytes_own11 {w : World} {y : Value} {ys : List Int} (h : BytesIn w y ys) (hn : ys ≠ []) : ∀ k, y.ownBlock = some k → k < w.heap.size := by
  obtain ⟨a, c, rfl, _, _, hx⟩ := h
  intro k hk
  rcases hx with rfl | ⟨ab, ao, rfl, hx⟩
  · exact absurd rfl hn
  · obtain ⟨x, r, rfl⟩ : ∃ x r, ys = x :: r := by
      cases ys with
      | nil => exact absurd rfl hn
      | cons x r => exact ⟨x, r, rfl⟩
    have := World.block_lt_of_cell? _ _ (hx 0 x rfl)
    cases hk
    exact this
def catL {α : Type} (f : α → List Int) : List α → List Int
  | [] => []
  | x :: r => f x ++ catL f r
theorem catL_snoc {α : Type} (f : α → List Int) (x : α) : ∀ l : List α, catL f (l ++ [x]) = catL f l ++ f x
  | [] => by simp [catL]
  | y :: r => by rw [List.cons_append, catL, catL, catL_snoc f x r, List.append_assoc]
theorem catL_take {α : Type} (f : α → List Int) (l : List α) (k : Nat) (x : α) (h : l[k]? = some x) : catL f (l.take (k + 1)) = catL f (l.take k) ++ f x := by
  rw [List.take_add_one, h]; exact catL_snoc f x _
theorem catL_app {α : Type} (f : α → List Int) : ∀ a b : List α, catL f (a ++ b) = catL f a ++ catL f b
  | [], b => rfl
  | y :: r, b => by rw [List.cons_append, catL, catL, catL_app f r b, List.append_assoc]
theorem catL_room {α : Type} (f : α → List Int) (l : List α) (k : Nat) : (catL f (l.take k)).length ≤ (catL f l).length := by
  have := congrArg List.length (catL_app f (l.take k) (l.drop k))
  rw [List.take_append_drop, List.length_append] at this
  omega
def listL {α : Type} (f : α → List Int) (l : List α) : List Int := varint l.length ++ catL f l
/-- a slice of bytes among others -/
structure Tb where
  bv : Value
  bs : List Int
abbrev TbIn (w : World) (v : Value) (l : List Tb) : Prop := RowsIn 1 (fun t : Tb => [t.bv]) w v l
structure VoFl (v : Vo) : Prop where
  k : -9223372036854775808 ≤ v.kind ∧ v.kind ≤ 9223372036854775807
  h : -9223372036854775808 ≤ v.height ∧ v.height ≤ 9223372036854775807
  r : -9223372036854775808 ≤ v.round ∧ v.round ≤ 9223372036854775807
  vl : -9223372036854775808 ≤ v.val ∧ v.val ≤ 9223372036854775807
/-- a validator's cells -/
def vaD (NM : ByteArray) (KE : Nat → Int) (PW : Int) : Array Value := #[.string NM] ++ (rowOf .u8 32 KE ++ (#[.int .i64 PW]))
theorem vaD_cells {NM : ByteArray} {KE : Nat → Int} {PW : Int} {w : World} {g : Nat} {T : TypeId} (h : w.heap[g]? = some (.cells (vaD NM KE PW) T (0, 0))) :
    w.cell? ⟨g, 0, none⟩ = some (.string NM) ∧ w.rangeAt g 1 (rowOf .u8 32 KE).toList ∧ w.cell? ⟨g, 33, none⟩ = some (.int .i64 PW) := by
  refine ⟨?_, ?_, ?_⟩
  · exact cellT_app (A := #[])  (C := rowOf .u8 32 KE ++ (#[.int .i64 PW])) h (by simp only [vaD, Array.append_assoc, Array.append_empty, Array.empty_append]) (by simp [rowOf_size])
  · exact rangeT_app (A := #[.string NM]) (B := rowOf .u8 32 KE) (C := #[.int .i64 PW]) h (by simp only [vaD, Array.append_assoc, Array.append_empty, Array.empty_append]) (by simp [rowOf_size])
  · exact cellT_app (A := (#[.string NM]) ++ rowOf .u8 32 KE)  (C := #[]) h (by simp only [vaD, Array.append_assoc, Array.append_empty, Array.empty_append]) (by simp [rowOf_size])
def vaS (q : Nat) (NM : ByteArray) (KE : Nat → Int) (PW : Int) (w : World) : Prop := w.heap[q]? = some (.cells (vaD NM KE PW) 54 (0, 0))
/-- its bytes -/
def vaL (NM : ByteArray) (KE : Nat → Int) (PW : Int) : List Int := (((varint NM.size ++ numsOf NM)) ++ rowL 32 KE) ++ varint (zig PW)
theorem vaC_D (v : Va) : vaC v = vaD v.name v.key v.pow := by apply Array.toList_inj.1; simp [vaC, vaD]
def va1 (t : Va) : List Int := vaL t.name t.key t.pow
set_option maxHeartbeats 8000000 in
theorem wval_any (NM : ByteArray) (KE : Nat → Int) (PW : Int) (g : Nat) (v : Value) (XS : List Int) (w : World) (hw : WAt w g v XS) (hPW : -9223372036854775808 ≤ PW ∧ PW ≤ 9223372036854775807) (hl : XS.length + (vaL NM KE PW).length + 10 ≤ 140737488355328) :
    Calls Tryz.prog 76 #[.pointer (some ⟨g, 0, none⟩), .agg (vaD NM KE PW)] w fun e w' => e = .returned (.tuple #[]) ∧ WsR g v w (XS ++ vaL NM KE PW) w' := by
  have HBA := Lib.hid (below_alloc w (.cells (vaD NM KE PW) 54))
  have HQ := Lib.hid (show vaS w.heap.size NM KE PW (w.alloc (.cells (vaD NM KE PW) 54)) from heap_alloc_new w (.cells (vaD NM KE PW) 54))
  have HW := Lib.hid (hw.below HBA.out)
  have HS := Lib.hid (WStep.of_below (p := g) (v := v) HBA.out)
  have HNE := Lib.hid (show w.heap.size ≠ g ∧ some w.heap.size ≠ v.ownBlock from ⟨by have := hw.lt; omega, fun e => by have := (hw.ne _ e.symm).2; omega⟩)
  have HQB := Lib.hid (show w.heap.size < (w.alloc (.cells (vaD NM KE PW) 54)).heap.size by simp)
  simp only [vaL, List.length_append, rowL32, numsOf_length] at hl
  have HL := Lib.hid hl
  have VNM := Lib.hid (glenT (n := NM.size) (by have := HL.out; omega))
  have VPW := Lib.hid (glenT (zig_lt hPW.1 hPW.2))
  have IPW := Lib.hid hPW
  clear hPW hl hw HBA
  go_enter Tryz.func76, Tryz.ntmps76
  go_upto_region 1 with (fail)
  obtain ⟨q, hq⟩ : ∃ q, q = w.heap.size := ⟨_, rfl⟩
  rw [← hq] at HQ HNE HQB ⊢
  clear hq
  generalize w.alloc (.cells (vaD NM KE PW) 54) = w1 at *
  have HSX := Lib.hid (show ∀ v' X, WStep g v v' w1 X → vaS q NM KE PW X from fun v' X hs => (hs.block q HQB.out HNE.out.1 HNE.out.2).trans HQ.out)
  have HZ := Lib.hid (WStep.refl g v w1)
  refine wp_region_T (vaS q NM KE PW) [0, 1, 2, 3, 4, 5, 6, 7, 8, 9] (by kernel_rfl) ?_
  replace HW := Lib.hid (HW.out.below (Below.refl _ _).drew)
  replace HS := Lib.hid (HS.out.trans (WStep.of_below (Below.refl _ _).drew))
  replace HZ := Lib.hid (HZ.out.trans (WStep.of_below (Below.refl _ _).drew))
  generalize World.drew _ = d0 at *
  refine anyT_take [] (i := 0) (v := .pointer (some ⟨g, 0, none⟩)) rfl (by kernel_rfl) (by kernel_rfl) (by kernel_rfl) (fun _ _ _ h => h) (by kernel_rfl) (Or.inl ⟨by rfl, fun w' _ => by go_simp⟩) (HSX.out _ _ HZ.out) ?_
  try simp only [List.getElem_toArray, List.getElem_cons_succ, List.getElem_cons_zero, Act.put, List.setIfInBounds_toArray, List.set_cons_zero, List.set_cons_succ]
  refine anyT_take [] (i := 1) (v := .pointer (some ⟨q, 0, none⟩)) rfl (by kernel_rfl) (by kernel_rfl) (by kernel_rfl) (fun _ _ _ h => h) (by kernel_rfl) (Or.inl ⟨by rfl, fun w' _ => by go_simp⟩) (HSX.out _ _ HZ.out) ?_
  try simp only [List.getElem_toArray, List.getElem_cons_succ, List.getElem_cons_zero, Act.put, List.setIfInBounds_toArray, List.set_cons_zero, List.set_cons_succ]
  refine anyT_take [] (i := 4) (v := .pointer (some ⟨q, 1, none⟩)) rfl (by kernel_rfl) (by kernel_rfl) (by kernel_rfl) (fun _ _ _ h => h) (by kernel_rfl) (Or.inl ⟨by rfl, fun w' _ => by go_simp⟩) (HSX.out _ _ HZ.out) ?_
  try simp only [List.getElem_toArray, List.getElem_cons_succ, List.getElem_cons_zero, Act.put, List.setIfInBounds_toArray, List.set_cons_zero, List.set_cons_succ]
  refine anyT_take [] (i := 7) (v := .pointer (some ⟨q, 33, none⟩)) rfl (by kernel_rfl) (by kernel_rfl) (by kernel_rfl) (fun _ _ _ h => h) (by kernel_rfl) (Or.inl ⟨by rfl, fun w' _ => by go_simp⟩) (HSX.out _ _ HZ.out) ?_
  try simp only [List.getElem_toArray, List.getElem_cons_succ, List.getElem_cons_zero, Act.put, List.setIfInBounds_toArray, List.set_cons_zero, List.set_cons_succ]
  refine anyT_take [] (i := 2) (v := .string NM) rfl (by kernel_rfl) (by kernel_rfl) (by kernel_rfl) (fun _ _ _ h => h) (by kernel_rfl) (Or.inl ⟨by rfl, fun w' hS => by have c := (vaD_cells hS).1; go_simp⟩) (HSX.out _ _ HZ.out) ?_
  try simp only [List.getElem_toArray, List.getElem_cons_succ, List.getElem_cons_zero, Act.put, List.setIfInBounds_toArray, List.set_cons_zero, List.set_cons_succ]
  refine anyT_take [] (i := 5) (v := .agg (rowOf .u8 32 KE)) rfl (by kernel_rfl) (by kernel_rfl) (by kernel_rfl) (fun _ _ _ h => h) (by kernel_rfl) (rowT_yields (by rfl) 23 (.tmp 8) rfl q 1 rfl _ _ (fun _ h => (vaD_cells h).2.1) Tryz.underlying23 rfl (by rw [rowOf_size]; kernel_rfl)) (HSX.out _ _ HZ.out) ?_
  try simp only [List.getElem_toArray, List.getElem_cons_succ, List.getElem_cons_zero, Act.put, List.setIfInBounds_toArray, List.set_cons_zero, List.set_cons_succ]
  refine anyT_take [] (i := 8) (v := .int .i64 PW) rfl (by kernel_rfl) (by kernel_rfl) (by kernel_rfl) (fun _ _ _ h => h) (by kernel_rfl) (Or.inl ⟨by rfl, fun w' hS => by have c := (vaD_cells hS).2.2; go_simp⟩) (HSX.out _ _ HZ.out) ?_
  try simp only [List.getElem_toArray, List.getElem_cons_succ, List.getElem_cons_zero, Act.put, List.setIfInBounds_toArray, List.set_cons_zero, List.set_cons_succ]
  refine anyT_one (i := 3) (by kernel_rfl) rfl (fun K hK => ?_)
  rw [if_pos (by rfl)]
  try simp only [List.getElem_toArray, List.getElem_cons_succ, List.getElem_cons_zero]
  (go_simp; (with_reducible refine (wtext_any g _ NM _ d0 HW.out (by have a := HL.out; have bVNM := VNM.out; have bVPW := VPW.out; (try simp only [List.length_append, rowL32, numsOf_length]); omega)).mono ?_); rintro e w0_0 hp; obtain ⟨rfl, v0_0, hw, hs⟩ := wpS_next hp; replace HW := Lib.hid hw; replace HS := Lib.hid (HS.out.trans hs); replace HZ := Lib.hid (HZ.out.trans hs); clear hp hw hs)
  refine hK _ _ (fun _ => HSX.out _ _ HZ.out) ?_
  clear hK K
  try simp only [List.getElem_toArray, List.getElem_cons_succ, List.getElem_cons_zero, Act.put, List.setIfInBounds_toArray, List.set_cons_zero, List.set_cons_succ]
  refine anyT_one (i := 6) (by kernel_rfl) rfl (fun K hK => ?_)
  rw [if_pos (by rfl)]
  try simp only [List.getElem_toArray, List.getElem_cons_succ, List.getElem_cons_zero]
  (go_simp; (with_reducible refine (whash_any g _ _ KE w0_0 HW.out (by have a := HL.out; have bVNM := VNM.out; have bVPW := VPW.out; (try simp only [List.length_append, rowL32, numsOf_length]); omega)).mono ?_); rintro e w0_1 hp; obtain ⟨rfl, v0_1, hw, hs⟩ := wpS_next hp; replace HW := Lib.hid hw; replace HS := Lib.hid (HS.out.trans hs); replace HZ := Lib.hid (HZ.out.trans hs); clear hp hw hs)
  refine hK _ _ (fun _ => HSX.out _ _ HZ.out) ?_
  clear hK K
  try simp only [List.getElem_toArray, List.getElem_cons_succ, List.getElem_cons_zero, Act.put, List.setIfInBounds_toArray, List.set_cons_zero, List.set_cons_succ]
  refine anyT_one (i := 9) (by kernel_rfl) rfl (fun K hK => ?_)
  rw [if_pos (by rfl)]
  try simp only [List.getElem_toArray, List.getElem_cons_succ, List.getElem_cons_zero]
  (go_simp; (with_reducible refine (wint_any g _ PW _ w0_1 HW.out IPW.out.1 IPW.out.2 (by have a := HL.out; have bVNM := VNM.out; have bVPW := VPW.out; (try simp only [List.length_append, rowL32, numsOf_length]); omega)).mono ?_); rintro e w0_2 hp; obtain ⟨rfl, v0_2, hw, hs⟩ := wpS_next hp; replace HW := Lib.hid hw; replace HS := Lib.hid (HS.out.trans hs); replace HZ := Lib.hid (HZ.out.trans hs); clear hp hw hs)
  refine hK _ _ (fun _ => HSX.out _ _ HZ.out) ?_
  clear hK K
  try simp only [List.getElem_toArray, List.getElem_cons_succ, List.getElem_cons_zero, Act.put, List.setIfInBounds_toArray, List.set_cons_zero, List.set_cons_succ]
  refine anyT_done (by kernel_rfl) ?_ _
  go_wp2_with (fail)
  go_end0
  exact ⟨rfl, _, by have := HW.out; unfold vaL; simpa only [List.append_assoc] using this, HS.out⟩
theorem wvalC_any (t : Va) (g : Nat) (v : Value) (XS : List Int) (w : World) (hw : WAt w g v XS) (h : -9223372036854775808 ≤ t.pow ∧ t.pow ≤ 9223372036854775807) (hl : XS.length + (va1 t).length + 10 ≤ 140737488355328) :
    Calls Tryz.prog 76 #[.pointer (some ⟨g, 0, none⟩), .agg (vaC t)] w fun e w' => e = .returned (.tuple #[]) ∧ WsR g v w (XS ++ va1 t) w' := by
  rw [vaC_D]
  exact wval_any t.name t.key t.pow g v XS w hw h hl
theorem vlen11 (n : Nat) (h : n < 18446744073709551616) : 0 ≤ (varint n).length ∧ (varint n).length ≤ 10 := ⟨Nat.zero_le _, glenT h⟩
def WlR {α : Type} (f : α → List Int) (g : Nat) (v : Value) (w : World) (Z : List Int) (l : List α) (k : Nat) (wr : World) : Prop := ∃ v', WAt wr g v' (Z ++ catL f (l.take k)) ∧ WStep g v v' w wr
set_option maxHeartbeats 8000000 in
theorem wlistA_any (w0 : World) (g : Nat) (hg : w0.heap.size ≤ g) (l : List Va) (vv : Value) (hl : VaIn w0 vv l) (ho : ∀ t ∈ l, -9223372036854775808 ≤ t.pow ∧ t.pow ≤ 9223372036854775807) (v : Value) (XS : List Int) (w : World) (hw : WAt w g v XS) (hB : Below w0.heap.size w0 w) (room : XS.length + (listL va1 l).length + 10 ≤ 140737488355328) :
    Calls Tryz.prog 127 #[.pointer (some ⟨g, 0, none⟩), vv, .func (.func 76) #[] #[]] w fun e w' => e = .returned (.tuple #[]) ∧ WsR g v w (XS ++ listL va1 l) w' := by
  obtain ⟨la, lc, rfl, -, hlm⟩ := hl.len
  have hl64 : l.length < 18446744073709551616 := by unfold maxLen at hlm; omega
  have HU := Lib.hid (wuint_any g v XS l.length w hw hl64 (by simp only [listL, List.length_append] at room; have := vlen11 l.length hl64; omega))
  have hu : IntKind.u64.wrap (l.length : Int) = (l.length : Int) := IntWalk.u64_in _ (by omega)
  have HLA := Lib.hid hl
  have HG := Lib.hid hg
  have HB := Lib.hid hB
  have HW := Lib.hid hw
  have HY := Lib.hid (show ∀ t ∈ l, -9223372036854775808 ≤ t.pow ∧ t.pow ≤ 9223372036854775807 from ho)
  have HR := Lib.hid room
  obtain ⟨nl, hnl⟩ : ∃ n, n = l.length := ⟨_, rfl⟩
  have HNL := Lib.hid hnl
  rw [← hnl] at hlm hl64 HU hu HLA ⊢
  have hnlI : (nl : Int) ≤ 9223372036854775807 := by unfold maxLen at hlm; omega
  clear hl hg hB hw ho room hnl hlm
  go_enter Tryz.func127, Tryz.ntmps127
  go_upto_region 1 with (go_at_call 148; (with_reducible refine HU.out.mono ?_); rintro e w1 hp; obtain ⟨rfl, v1, hw1, hs1⟩ := wpS_next hp; have HM := Lib.hid (show WlR va1 g v w (XS ++ varint nl) l 0 w1 from ⟨v1, by simpa [catL] using hw1, hs1⟩); clear hp hw1 hs1)
  go_wp2_with (fail)
  go_loopw [15] (fun x wr => ∃ k : Nat, k ≤ nl ∧ x = .int .i64 (k : Int) ∧ Hid (WlR va1 g v w (XS ++ varint nl) l k wr)) (fun x _ => nl - (intOf x).toNat)
  case atStart => exact ⟨0, Nat.zero_le _, rfl, HM⟩
  case round =>
    clear HM HU
    obtain ⟨k, hkn, rfl, HM⟩ := hrel
    obtain ⟨v2, hw2, hs2⟩ := HM.out
    by_cases hlt : k < nl
    · have hltI : (k : Int) < (nl : Int) := by omega
      obtain ⟨x, hx⟩ : ∃ x, l[k]? = some x := ⟨l[k]'(by have := HNL.out; omega), List.getElem?_eq_getElem _⟩
      have HX := Lib.hid (HY.out x (List.mem_of_getElem? hx))
      have HT := Lib.hid (catL_take va1 l k x hx)
      have HBr := Lib.hid (HB.out.trans (hs2.below HW.out HG.out))
      have hv := HLA.out.below HBr.out
      rw [HNL.out] at hv
      obtain ⟨ab, ao, rfl, hab, hra⟩ := hv.at hx
      have HWr := Lib.hid hw2
      have HSr := Lib.hid hs2
      have HRM := Lib.hid (show (XS ++ varint nl ++ catL va1 (l.take k)).length + (va1 x).length + 10 ≤ 140737488355328 from by
        have h1 := HR.out
        have h2 := catL_room va1 l (k + 1)
        rw [HT.out] at h2
        rw [List.length_append] at h2
        simp only [listL, List.length_append, ← HNL.out] at h1 ⊢
        omega)
      have HRA := Lib.hid hra
      clear hv hra hx hw2 hs2 HM
      go_upto_region 5 with (first
        | (refine wpList_load_rowT (by rfl) 54 (.tmp 17) rfl ab (ao + k * 34) rfl (vaC x) _ HRA.out Tryz.underlying54 rfl (by rw [vaC_size]; kernel_rfl) ?_)
        | (refine wpList_store_row rfl 54 (.tmp 7) (.tmp 18) rfl wr.heap.size (vaC x) rfl rfl 54 _ (heap_alloc_new _ _) (by rw [vaC_size]; kernel_rfl) (by rw [vaC_size]; rfl) (vaC_one _) ?_; rw [World.setRow_alloc_new]; have HQ := Lib.hid (heap_alloc_new wr (.cells (vaC x) 54)); have hb := below_alloc wr (.cells (vaC x) 54); replace HWr := Lib.hid (HWr.out.below hb); replace HSr := Lib.hid (HSr.out.trans (WStep.of_below hb)); replace HBr := Lib.hid (HBr.out.trans (hb.mono HBr.out.size)); clear hb; obtain ⟨q, hq⟩ : ∃ q, q = wr.heap.size := ⟨_, rfl⟩; rw [← hq] at HQ ⊢; clear hq; generalize wr.alloc (.cells (vaC x) 54) = w3 at *)
        | (refine wpList_load_rowT (by rfl) 54 (.tmp 7) rfl q 0 rfl (vaC x) _ (rowT_range HQ.out) Tryz.underlying54 rfl (by rw [vaC_size]; kernel_rfl) ?_)
        | (go_at_call 76; (with_reducible refine (wvalC_any x g v2 _ w3 HWr.out HX.out HRM.out).mono ?_); rintro e w4 ⟨rfl, v4, hw4, hs4⟩; replace HWr := Lib.hid hw4; replace HSr := Lib.hid (HSr.out.trans hs4); clear hw4 hs4))
      go_wp2_with (fail)
      go_roundw
      case rel => exact ⟨k + 1, by omega, by go_num, Lib.hid ⟨v4, by have h := HWr.out; rw [List.append_assoc] at h; rw [HT.out]; exact h, HSr.out⟩⟩
      case measure => simp [intOf]; omega
    · obtain rfl : k = nl := by omega
      go_wp2_with (fail)
      go_end0
      refine ⟨rfl, v2, ?_, hs2⟩
      rw [show listL va1 l = varint k ++ catL va1 (l.take k) from by unfold listL; rw [← HNL.out, HNL.out, List.take_length], ← List.append_assoc]
      exact hw2
end Go.Proofs.YteokgklfljhcaaaGreatDoor
namespace Go.Proofs.YteokgklfljhcaaaGreatDoor
set_option linter.unusedVariables false
set_option linter.unusedSimpArgs false
open Go.RowKit
set_option maxRecDepth 100000
set_option maxRecDepth 100000 in
set_option maxHeartbeats 1000000 in
theorem rhash_own (p : Nat) (y : Value) (ys : List Int) (e : Option Nat) (w : World) (h : RAt w p y ys e) :
    Calls Tryz.prog 157 #[.pointer (some ⟨p, 0, none⟩)] w fun r w' => r = .returned (.agg (rowOf .u8 32 (hashS (ys, e)).1)) ∧ (∃ y', RAt w' p y' (hashS (ys, e)).2.1 (hashS (ys, e)).2.2 ∧ y'.ownBlock = y.ownBlock) ∧ Only p w w' := by
  have HB := Lib.hid ((below_alloc w (.cells (rowOf .u8 32 (fun _ => 0)) 23)).trans ((below_alloc (w.alloc (.cells (rowOf .u8 32 (fun _ => 0)) 23)) (.cells (rowOf .u8 32 (fun _ => 0)) 23)).mono (by simp)))
  have HR := h.below HB.out
  have HQ1 := (RowAt.new w .u8 32 23 (fun _ => 0)).alloc (.cells (rowOf .u8 32 (fun _ => 0)) 23)
  have HQ2 := RowAt.new (w.alloc (.cells (rowOf .u8 32 (fun _ => 0)) 23)) .u8 32 23 (fun _ => 0)
  rw [size_alloc] at HQ2
  have HP : p < w.heap.size := h.lt
  have H0 := Lib.hid h
  replace HR := Lib.hid HR
  replace HQ1 := Lib.hid HQ1
  replace HQ2 := Lib.hid HQ2
  clear h
  go_enter Tryz.func157, Tryz.ntmps157
  go_upto_region 2 with (fail)
  rw [zerosPk]
  generalize (w.alloc (.cells (rowOf .u8 32 (fun _ => 0)) 23)).alloc (.cells (rowOf .u8 32 (fun _ => 0)) 23) = w1 at *
  have HE := Lib.hid (err_any p y ys e w1 HR.out)
  have hc0 := HR.out.cell0
  have hc1 := HR.out.cell1
  have hf := HR.out.free 1
  obtain ⟨a, c, rfl, hle⟩ := HR.out.wide
  have HLE := Lib.hid hle
  clear hle
  cases e with
  | some x =>
    simp only [errV] at HE hc1
    go_wp2_with (first
      | (go_at_call 153; (with_reducible refine HE.out.mono ?_); rintro e w2 ⟨rfl, rfl⟩)
      | (refine wpList_load_row rfl 23 (.tmp 3) rfl (w.heap.size + 1) rfl 23 _ (0, 0) _ HQ2.out Tryz.underlying23 rfl (by rw [rowOf_size]; kernel_rfl) ?_)
      | (refine wpList_store_row rfl 23 (.tmp 2) (.tmp 7) rfl w.heap.size _ rfl rfl 23 _ HQ1.out (by rw [rowOf_size]; kernel_rfl) (by simp only [rowOf_size]) (rowOf_one _ _ _) ?_))
    refine bodyPost_ret (results_cell_row rfl _ _ w.heap.size 23 (rowOf .u8 32 (fun _ => 0)) (0, 0) _ rfl (setRow_heap _ _ _ _ _ _ HQ1.out) Tryz.underlying23 rfl (by rw [rowOf_size]; kernel_rfl)) rfl ?_
    rw [hashS_err]
    exact ⟨rfl, ⟨_, H0.out.below (below_setRow HB.out (Nat.le_refl _) _), rfl⟩, Only.of_below (below_setRow HB.out (Nat.le_refl _) _)⟩
  | none =>
    simp only [errV] at HE hc1
    by_cases hs : ys.length < 32
    · have HS := Lib.hid (hashS_short hs)
      have hs1 : (ys.length : Int) < 32 := by omega
      have HW := Lib.hid (HR.out.err (some 12))
      have HQ2' := Lib.hid (HQ2.out.other ⟨p, 1, none⟩ (errV (some 12)) (show w.heap.size + 1 ≠ p by omega))
      have HQ1' := Lib.hid (HQ1.out.other ⟨p, 1, none⟩ (errV (some 12)) (show w.heap.size ≠ p by omega))
      have HO := Lib.hid ((Only.of_below HB.out).trans (Only.setCell w1 ⟨p, 1, none⟩ (errV (some 12))))
      simp only [errV] at HW HQ1' HQ2' HO
      clear HQ1 HQ2
      go_wp2_with (first
        | (go_at_call 153; (with_reducible refine HE.out.mono ?_); rintro e w2 ⟨rfl, rfl⟩)
        | (refine wpList_load_row rfl 23 (.tmp 3) rfl (w.heap.size + 1) rfl 23 _ (0, 0) _ HQ2'.out Tryz.underlying23 rfl (by rw [rowOf_size]; kernel_rfl) ?_)
        | (refine wpList_store_row rfl 23 (.tmp 2) (.tmp 18) rfl w.heap.size _ rfl rfl 23 _ HQ1'.out (by rw [rowOf_size]; kernel_rfl) (by simp only [rowOf_size]) (rowOf_one _ _ _) ?_))
      refine bodyPost_ret (results_cell_row rfl _ _ w.heap.size 23 (rowOf .u8 32 (fun _ => 0)) (0, 0) _ rfl (setRow_heap _ _ _ _ _ _ HQ1'.out) Tryz.underlying23 rfl (by rw [rowOf_size]; kernel_rfl)) rfl ?_
      rw [HS.out]
      refine ⟨rfl, ⟨_, HW.out.keep (setRow_other _ _ _ _ (by omega)) fun hn k hk => setRow_other _ _ _ _ ?_, rfl⟩, HO.out.behind (Nat.le_refl _) _⟩
      have := H0.out.own_lt hn k hk; omega
    · have hs1 : ¬ (ys.length : Int) < 32 := by omega
      have HS := Lib.hid (hashS_long hs)
      go_upto_region 7 with (go_at_call 153; (with_reducible refine HE.out.mono ?_); rintro e w2 ⟨rfl, rfl⟩)
      obtain ⟨w3, hw3⟩ : ∃ w3, w3 = w2.drew := ⟨_, rfl⟩
      have HR3 := Lib.hid (show RAt w3 p (.slice a ys.length c) ys none by rw [hw3]; exact HR.out.keep rfl fun _ _ _ => rfl)
      have HQ13 := Lib.hid (show RowAt w3 w.heap.size .u8 32 23 (fun _ => 0) by rw [hw3]; exact HQ1.out)
      have HQ23 := Lib.hid (show RowAt w3 (w.heap.size + 1) .u8 32 23 (fun _ => 0) by rw [hw3]; exact HQ2.out)
      have HO3 := Lib.hid (show Only p w w3 by rw [hw3]; exact (Only.of_below HB.out).trans (Only.drew _ _))
      refine wp_region_any (by kernel_rfl) ?_
      change wpAny _ _ _ _ _ _ _ w2.drew
      rw [← hw3]
      clear hw3
      refine wpAny_take (i := 0) (v := .slice (some ⟨w.heap.size + 1, 0, none⟩) 32 32) rfl (by kernel_rfl) (by kernel_rfl) (by kernel_rfl) (fun _ _ _ h => h) (Or.inl ⟨by rfl, by intro w; go_simp⟩) ?_
      try simp only [List.getElem_toArray, List.getElem_cons_zero, Act.put, List.setIfInBounds_toArray, List.set_cons_zero, List.set_cons_succ]
      refine wpAny_take (i := 1) (v := .pointer (some ⟨p, 0, none⟩)) rfl (by kernel_rfl) (by kernel_rfl) (by kernel_rfl) (fun _ _ _ h => h) (Or.inl ⟨by rfl, by intro w; go_simp⟩) ?_
      try simp only [List.getElem_toArray, List.getElem_cons_succ, List.getElem_cons_zero, Act.put, List.setIfInBounds_toArray, List.set_cons_zero, List.set_cons_succ]
      refine wpAny_ready (rs := [2]) (by kernel_rfl) (by simp) ?_; refine AllReady.cons rfl (fun K hK => ?_) AllReady.nil; rw [if_pos (by rfl)]
      try simp only [List.getElem_toArray, List.getElem_cons_succ, List.getElem_cons_zero]
      go_simp
      have ht := take_any p _ ys none 32 w3 HR3.out (by omega)
      rw [show ((32 : Nat) : Int) = 32 from rfl] at ht
      refine ht.mono ?_
      rintro e w4 ⟨a1, c1, y1, rfl, hi1, hn1, hr1, ho1, hy1⟩
      have hl32 : (ys.take 32).length = 32 := by rw [List.length_take]; omega
      obtain ⟨a1', c1', e1, _, _, hx1⟩ := hi1
      rw [hl32] at e1
      injection e1 with e1 _ e3
      subst e1 e3
      obtain ⟨ab, ao, rfl, hx2⟩ := hx1.resolve_left (by intro h0; rw [h0] at hl32; simp at hl32)
      clear hx1 hn1
      refine hK _ _ ?_
      clear hK K
      try simp only [List.getElem_toArray, List.getElem_cons_succ, List.getElem_cons_zero, Act.put, List.setIfInBounds_toArray, List.set_cons_zero, List.set_cons_succ]
      refine wpAny_ready (rs := [3]) (by kernel_rfl) (by simp) ?_; refine AllReady.cons rfl (fun K hK => ?_) AllReady.nil; rw [if_pos (by rfl)]
      try simp only [List.getElem_toArray, List.getElem_cons_succ, List.getElem_cons_zero]
      have hq4 : RowAt w4 (w.heap.size + 1) .u8 32 23 (fun _ => 0) := (ho1.block _ HQ23.out.lt (by omega)).trans HQ23.out
      have hq5 : RowAt w4 w.heap.size .u8 32 23 (fun _ => 0) := (ho1.block _ HQ13.out.lt (by omega)).trans HQ13.out
      have hcp := run_copy_row (P := Tryz.prog) w4 39 39 3 5 (w.heap.size + 1) 0 32 32 ⟨ab, ao, none⟩ 32 c1 _ 23 (byteVals (ys.take 32)) Tryz.underlying39 (by kernel_rfl) hq4 (by rw [byteVals_length, hl32]; rfl) (fun j v hv => by
          rw [Addr.add_mid]
          simp only [byteVals, List.getElem?_map] at hv
          cases hj : (ys.take 32)[j]? with
          | none => rw [hj] at hv; cases hv
          | some x => rw [hj] at hv; cases hv; exact hx2 j x hj) (by rw [byteVals_length, hl32, rowOf_size]; omega) (byteVals_one _)
      rw [copied32 _ ys hs] at hcp
      have HQ2 : Hid (RowAt (w4.setRow (w.heap.size + 1) (rowOf .u8 32 (fun i => ys.getD i 0))) (w.heap.size + 1) .u8 32 23 (fun i => ys.getD i 0)) := Lib.hid (setRow_heap _ _ _ _ _ _ hq4)
      have HQ1 : Hid (RowAt (w4.setRow (w.heap.size + 1) (rowOf .u8 32 (fun i => ys.getD i 0))) w.heap.size .u8 32 23 (fun _ => 0)) := Lib.hid ((setRow_other _ _ _ _ (by omega)).trans hq5)
      have hne : ∀ g, w.heap.size ≤ g → ys.drop 32 ≠ [] → ∀ k, y1.ownBlock = some k → k ≠ g := fun g hg hn k hk => by
        rw [hy1] at hk
        have := H0.out.own_lt (by rintro rfl; simp at hn) k hk
        omega
      have HW := Lib.hid (show RAt (w4.setRow (w.heap.size + 1) (rowOf .u8 32 (fun i => ys.getD i 0))) p y1 (ys.drop 32) none from
        hr1.keep (setRow_other _ _ _ _ (by omega)) fun hn k hk => setRow_other _ _ _ _ (hne _ (Nat.le_succ _) hn k hk))
      have HO := Lib.hid ((HO3.out.trans ho1).behind (g := w.heap.size + 1) (Nat.le_succ _) (rowOf .u8 32 (fun i => ys.getD i 0)))
      refine wp_copy_at w4 (.tmp 19) (.tmp 21) 39 39 rfl rfl _ _ rfl rfl hcp ?_
      clear hcp hq4 hq5 hr1 ho1 hx2 HQ13 HQ23 HR3 HO3 ht
      generalize w4.setRow (w.heap.size + 1) (rowOf .u8 32 (fun i => ys.getD i 0)) = w5 at *
      refine hK _ _ ?_
      clear hK K
      try simp only [Act.put, List.setIfInBounds_toArray, List.set_cons_zero, List.set_cons_succ]
      refine wpAny_done (by kernel_rfl) ?_ _
      go_wp2_with (first
        | (refine wpList_load_row rfl 23 (.tmp 3) rfl (w.heap.size + 1) rfl 23 _ (0, 0) _ HQ2.out Tryz.underlying23 rfl (by rw [rowOf_size]; kernel_rfl) ?_)
        | (refine wpList_store_row rfl 23 (.tmp 2) (.tmp 23) rfl w.heap.size _ rfl rfl 23 _ HQ1.out (by rw [rowOf_size]; kernel_rfl) (by simp only [rowOf_size]) (rowOf_one _ _ _) ?_))
      refine bodyPost_ret (results_cell_row rfl _ _ w.heap.size 23 (rowOf .u8 32 (fun i => ys.getD i 0)) (0, 0) _ rfl (setRow_heap _ _ _ _ _ _ HQ1.out) Tryz.underlying23 rfl (by rw [rowOf_size]; kernel_rfl)) rfl ?_
      rw [HS.out]
      exact ⟨rfl, ⟨_, HW.out.keep (setRow_other _ _ _ _ (by omega)) fun hn k hk => setRow_other _ _ _ _ (hne _ (Nat.le_refl _) hn k hk), hy1⟩, HO.out.behind (Nat.le_refl _) _⟩
end Go.Proofs.YteokgklfljhcaaaGreatDoor

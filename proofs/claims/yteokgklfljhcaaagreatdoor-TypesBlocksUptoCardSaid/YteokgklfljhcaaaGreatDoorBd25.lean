/- Part 25 of the proof. -/
import Derived.Lib.SmallJoins
import Derived.Deep.Fields
import Derived.ChangeSame
import Derived.Lib.Zigzag
import Derived.Great.BuildSlice
import Derived.Test.YteokgklfljhcaaaGreatDoorBd2
import Derived.Test.YteokgklfljhcaaaGreatDoorBd9
import Derived.Test.YteokgklfljhcaaaGreatDoorBd10
import Derived.Test.YteokgklfljhcaaaGreatDoorBd17
import Derived.Test.YteokgklfljhcaaaGreatDoorBd24
namespace Go.Proofs.YteokgklfljhcaaaGreatDoor
set_option linter.unusedVariables false
set_option linter.unusedSimpArgs false
open Go.RowKit
set_option maxRecDepth 100000
end Go.Proofs.YteokgklfljhcaaaGreatDoor
namespace Go.Proofs.YteokgklfljhcaaaGreatDoor
set_option linter.unusedVariables false
set_option linter.unusedSimpArgs false
open Go.RowKit
set_option maxRecDepth 100000
end Go.Proofs.YteokgklfljhcaaaGreatDoor
namespace Go.Proofs.YteokgklfljhcaaaGreatDoor
set_option linter.unusedVariables false
set_option linter.unusedSimpArgs false
open Go.RowKit
set_option maxRecDepth 100000
set_option linter.unusedSimpArgs false
set_option linter.unusedVariables false
end Go.Proofs.YteokgklfljhcaaaGreatDoor
namespace Go.Proofs.YteokgklfljhcaaaGreatDoor
set_option linter.unusedVariables false
set_option linter.unusedSimpArgs false
open Go.RowKit
set_option maxRecDepth 100000
set_option linter.unusedSimpArgs false
set_option linter.unusedVariables false
/-- a vote that may be signed for -/
structure VoIs (v : Vo) : Prop where
  ok : VoOk v
  b : bytesOk v.sign
  z : v.sign.length ≤ 140737488355328
end Go.Proofs.YteokgklfljhcaaaGreatDoor
namespace Go.Proofs.YteokgklfljhcaaaGreatDoor
set_option linter.unusedVariables false
set_option linter.unusedSimpArgs false
open Go.RowKit
set_option maxRecDepth 100000
set_option linter.unusedSimpArgs false
set_option linter.unusedVariables false
/-- votes of a set, each greater than the one ahead -/
structure GoodV (l : List Va) (vs : List Vo) : Prop where
  idx : ∀ (k : Nat) (v : Vo), vs[k]? = some v → 0 ≤ v.val ∧ v.val < l.length
  inc : ∀ (j k : Nat) (u v : Vo), j < k → vs[j]? = some u → vs[k]? = some v → u.val < v.val
end Go.Proofs.YteokgklfljhcaaaGreatDoor
namespace Go.Proofs.YteokgklfljhcaaaGreatDoor
set_option linter.unusedVariables false
set_option linter.unusedSimpArgs false
open Go.RowKit
set_option maxRecDepth 100000
set_option linter.unusedSimpArgs false
set_option linter.unusedVariables false
end Go.Proofs.YteokgklfljhcaaaGreatDoor
namespace Go.Proofs.YteokgklfljhcaaaGreatDoor
set_option linter.unusedVariables false
set_option linter.unusedSimpArgs false
open Go.ChangeShapes Go.WideShapes Go.ChangeAt Go.RowKit
set_option maxRecDepth 100000
end Go.Proofs.YteokgklfljhcaaaGreatDoor
namespace Go.Proofs.YteokgklfljhcaaaGreatDoor
set_option linter.unusedVariables false
set_option linter.unusedSimpArgs false
open Go.ChangeShapes Go.WideShapes Go.ChangeAt Go.RowKit Go.Proofs
set_option maxRecDepth 100000
set_option linter.unusedSimpArgs false
set_option linter.unusedVariables false
/-- a slice of rows that came in: each row's cells are C t -/
theorem rows_raw {H α : Type} {enc : TypeId × Value → H} {W : World} {T E : TypeId} {n : Nat} (hT : Tryz.prog.underlying T = some (.slice E)) (hn : Tryz.prog.cellsOf E = n) (hn0 : 0 < n) (C : α → List Value) (hC : ∀ t, (C t).length = n) (Ok : α → Nat → Prop)
    (hel : ∀ (f : Nat) (cs : List Value) (x : DataW H × List MemPlace), DataW.trod enc Tryz.prog W 0 (fun _ => true) true f E cs = some x → ∃ t, cs = C t ∧ Ok t (Rows.uptoBulk x.1))
    {fuel : Nat} {cs : List Value} {x : DataW H × List MemPlace} (h : DataW.trod enc Tryz.prog W 0 (fun _ => true) true fuel T cs = some x) :
    ∃ (ts : List α) (a : Option Addr) (cap : Nat), cs = [.slice a ts.length cap] ∧ ts.length ≤ cap ∧ ts.length ≤ maxLen ∧ ts.length ≤ Rows.uptoBulk x.1 ∧
      (ts = [] ∨ ∃ b off, a = some ⟨b, off, none⟩ ∧ b < W.heap.size ∧ ∀ i t, ts[i]? = some t → W.rangeAt b (off + i * n) (C t)) ∧ ∀ t ∈ ts, ∃ k, Ok t k ∧ k ≤ Rows.uptoBulk x.1 := by
  rcases Deep.open_slice hT h with ⟨hcs, hx⟩ | ⟨ad, l, c, m, f, D, Pl, hcs, _, hl, hm, hmm, hx, hel2⟩
  · exact ⟨[], none, 0, hcs, by simp, by simp [maxLen], by simp, .inl rfl, by simp⟩
  · simp only [if_true] at hmm
    subst hx
    rw [hn] at hel2
    have key : ∀ i, i < l → ∃ t : α, (∀ j v, (C t)[j]? = some v → W.cell? (ad.add (i * n + j)) = some v) ∧ Ok t (Rows.uptoBulk (D i)) := by
      intro i hi
      obtain ⟨cs', h1, h2⟩ := hel2 i (by omega)
      obtain ⟨_, hlen, hcell⟩ := World.cells?_some h1
      obtain ⟨t, rfl, hok⟩ := hel f _ _ h2
      refine ⟨t, fun j v hv => ?_, hok⟩
      have hj : j < n := by have := (List.getElem?_eq_some_iff.1 hv).1; rw [hC] at this; exact this
      rw [← hv, ← hcell j hj]
      by_cases hj0 : j = 0 <;> by_cases hi0 : i * n = 0 <;> simp [hj0, hi0, Addr.add, Nat.add_assoc]
    have hnone : ∀ (i : Nat), l ≤ i → True := fun _ _ => trivial
    by_cases hl0 : l = 0
    · subst hl0
      exact ⟨[], some ad, c, hcs, by simp, by simp [maxLen], by simp, .inl rfl, by simp⟩
    · obtain ⟨t0, _⟩ := key 0 (by omega)
      have hinh : Nonempty α := ⟨t0⟩
      have key2 : ∀ i, ∃ t : α, i < l → (∀ j v, (C t)[j]? = some v → W.cell? (ad.add (i * n + j)) = some v) ∧ Ok t (Rows.uptoBulk (D i)) := fun i => by
        by_cases hi : i < l
        · obtain ⟨t, ht⟩ := key i hi; exact ⟨t, fun _ => ht⟩
        · exact ⟨t0, fun h => absurd h hi⟩
      obtain ⟨F, hF⟩ : ∃ F : Nat → α, ∀ i, i < l → (∀ j v, (C (F i))[j]? = some v → W.cell? (ad.add (i * n + j)) = some v) ∧ Ok (F i) (Rows.uptoBulk (D i)) := ⟨fun i => (key2 i).choose, fun i => (key2 i).choose_spec⟩
      have hget : ∀ i t, ((List.range l).map F)[i]? = some t → i < l ∧ F i = t := fun i t hi => by
        have hil : i < l := by have := (List.getElem?_eq_some_iff.1 hi).1; simpa using this
        rw [List.getElem?_map, List.getElem?_range hil] at hi
        cases hi; exact ⟨hil, rfl⟩
      have hblk := bulk_len ((List.range l).map D)
      simp only [List.length_map, List.length_range] at hblk
      refine ⟨(List.range l).map F, some ad, c, by simpa using hcs, by simpa using hl, by simp; omega, ?_, .inr ?_, fun t ht => ?_⟩
      · simp only [Rows.uptoBulk, List.length_map, List.length_range]; omega
      · obtain ⟨b, off, spot⟩ := ad
        have h1 : (C (F 0))[0]? = some (C (F 0))[0]! := by rw [List.getElem?_eq_getElem (by rw [hC]; exact hn0)]; simp [hC, hn0]
        have h0 := (hF 0 (by omega)).1 0 _ h1
        have hspot : spot = none := by simpa [Addr.add] using World.cell?_spot h0
        subst hspot
        refine ⟨b, off, rfl, by simpa [Addr.add] using World.block_lt_of_cell? _ _ h0, fun i t hi => ?_⟩
        obtain ⟨hil, rfl⟩ := hget i t hi
        intro j v hv
        have := (hF i hil).1 j v hv
        rw [Addr.add_mid] at this
        rw [Nat.add_assoc]; exact this
      · obtain ⟨i, hi, rfl⟩ := List.mem_map.1 ht
        have h2 := bulk_mem (d := D i) (l := (List.range l).map D) (List.mem_map.2 ⟨i, hi, rfl⟩)
        exact ⟨_, (hF i (List.mem_range.1 hi)).2, by simp only [Rows.uptoBulk]; omega⟩
theorem bulkAt {H : Type} {d : DataW H} {l : List (DataW H)} {i : Nat} (h : l[i]? = some d) : Rows.uptoBulk d ≤ Rows.uptoBulkAll l := bulk_mem (List.mem_of_getElem? h)
end Go.Proofs.YteokgklfljhcaaaGreatDoor
namespace Go.Proofs.YteokgklfljhcaaaGreatDoor
set_option linter.unusedVariables false
set_option linter.unusedSimpArgs false
open Go.RowKit
set_option maxRecDepth 100000
end Go.Proofs.YteokgklfljhcaaaGreatDoor
namespace Go.Proofs.YteokgklfljhcaaaGreatDoor
set_option linter.unusedVariables false
set_option linter.unusedSimpArgs false
open Go.ChangeShapes Go.WideShapes Go.ChangeAt Go.RowKit Go.Proofs
set_option maxRecDepth 100000
set_option linter.unusedSimpArgs false
set_option linter.unusedVariables false
theorem dcut {α : Type} (cs : List α) (o k m : Nat) (h : m = o + k) : cs.drop o = (cs.drop o).take k ++ cs.drop m := by rw [h, ← List.drop_drop, List.take_append_drop]
theorem dend {α : Type} (cs : List α) (m : Nat) (h : cs.length = m) : cs.drop m = [] := List.drop_of_length_le (by omega)
end Go.Proofs.YteokgklfljhcaaaGreatDoor
namespace Go.Proofs.YteokgklfljhcaaaGreatDoor
set_option linter.unusedVariables false
set_option linter.unusedSimpArgs false
open Go.ChangeShapes Go.WideShapes Go.ChangeAt Go.RowKit Go.Proofs
set_option maxRecDepth 100000
set_option linter.unusedSimpArgs false
set_option linter.unusedVariables false
def byOk (f : Nat → Int) : Prop := ∀ i, i < 32 → 0 ≤ f i ∧ f i < 256
end Go.Proofs.YteokgklfljhcaaaGreatDoor
namespace Go.Proofs.YteokgklfljhcaaaGreatDoor
set_option linter.unusedVariables false
set_option linter.unusedSimpArgs false
open Go.RowKit
set_option maxRecDepth 100000
end Go.Proofs.YteokgklfljhcaaaGreatDoor
namespace Go.Proofs.YteokgklfljhcaaaGreatDoor
set_option linter.unusedVariables false
set_option linter.unusedSimpArgs false
open Go.RowKit
set_option maxRecDepth 100000
set_option linter.unusedSimpArgs false
set_option linter.unusedVariables false
structure VoBy (t : Vo) : Prop where
  f : VoFl t
  b : byOk t.blk
  s : bytesOk t.sign
structure HdBy (h : Hd) : Prop where
  f : HdFl h
  b : byOk h.LA ∧ byOk h.AP ∧ byOk h.TX ∧ byOk h.VA ∧ byOk h.NX
structure CmBy (c : Cm) : Prop where
  f : CmFl c
  b : byOk c.blk
theorem catL_le {α : Type} (f : α → List Int) (m : Nat) : ∀ l : List α, (∀ t ∈ l, (f t).length ≤ m) → (catL f l).length ≤ l.length * m
  | [], _ => by simp [catL]
  | t :: l, h => by
    have h1 := h t List.mem_cons_self
    have h2 := catL_le f m l fun u hu => h u (List.mem_cons_of_mem _ hu)
    rw [catL, List.length_append, List.length_cons, Nat.add_mul]; omega
end Go.Proofs.YteokgklfljhcaaaGreatDoor
namespace Go.Proofs.YteokgklfljhcaaaGreatDoor
set_option linter.unusedVariables false
set_option linter.unusedSimpArgs false
open Go.RowKit
open Go.Maps (Keyed setOf)
set_option maxRecDepth 100000
set_option linter.unusedSimpArgs false
set_option linter.unusedVariables false
set_option maxHeartbeats 4000000 in
theorem vtrust_any (old l : List Va) (vs : List Vo) (c : Cm) (ov lv vv : Value) (w : World) (ho : VaIn w ov old) (hl : VaIn w lv l) (hv : VoIn w vv vs) (hwo : ∀ x ∈ old, VaWf x) (hwf : ∀ x ∈ l, VaWf x) (hn : l.length ≤ 1048576) (hsv : ∀ t ∈ vs, ∃ a n c, t.sv = .slice a n c) :
    Calls Tryz.prog 67 #[ov, lv, .agg (cmC c vv)] w fun e w' => e = .returned (errV (vtE old l vs)) ∧ Below w.heap.size w w' := by
  obtain ⟨oa, oc, rfl, -, hom⟩ := ho.len
  obtain ⟨la, lc, rfl, -, -⟩ := hl.len
  obtain ⟨qa, qc, rfl, -, -⟩ := hv.len
  have HB := Lib.hid (below_alloc w (.cells (cmC c (.slice qa vs.length qc)) 29))
  have c34 := (cm_cells (heap_alloc_new w (.cells (cmC c (.slice qa vs.length qc)) 29))).2.2.2
  have HO := Lib.hid ho
  have HVS := Lib.hid (voters_any l vs (.slice la l.length lc) (.slice qa vs.length qc) _ (hl.below HB.out) (hv.below HB.out) hwf hn hsv)
  have HWO := Lib.hid hwo
  have HTO := Lib.hid (fun w h => total_any old (.slice oa old.length oc) w h)
  have HTH := Lib.hid (fun p t w => third_any p t w)
  obtain ⟨no, hno⟩ : ∃ n, n = old.length := ⟨_, rfl⟩
  have HNO := Lib.hid hno
  have hn1 : no ≤ 9223372036854775807 := by unfold maxLen at hom; omega
  rw [← hno] at HO HTO ⊢
  obtain ⟨E, hE⟩ : ∃ E, E = vtE old l vs := ⟨_, rfl⟩
  have HEE := Lib.hid hE
  rw [← hE]
  clear ho hl hv hwo hwf hn hsv hom hno hE
  go_enter Tryz.func67, Tryz.ntmps67
  go_upto_region 1 with (fail)
  generalize w.alloc (.cells (cmC c (.slice qa vs.length qc)) 29) = w1 at *
  go_upto_region 4 with (go_at_call 116; (with_reducible refine HVS.out.mono ?_); rintro e w2 ⟨g, bm, n, acc, rfl, hvt, hac, hb⟩; have HVT := Lib.hid hvt; have HAC := Lib.hid hac; replace HB := Lib.hid (HB.out.trans (hb.mono HB.out.size)); clear hvt hac hb)
  clear HVS c34
  have HR0 := Lib.hid (show (0 : Int) = trP l (votedF vs) (old.take 0) 0 ∧ Below w.heap.size w w2 ∧ VtM w2 g bm n acc from ⟨rfl, HB.out, HVT.out⟩)
  clear HVT HB
  go_wp2_with (fail)
  go_loopw [8, 17] (fun y x wr => ∃ (k : Nat) (s : Int), k ≤ no ∧ y = .int .i64 s ∧ x = .int .i64 (k : Int) ∧ Hid (s = trP l (votedF vs) (old.take k) 0 ∧ Below w.heap.size w wr ∧ VtM wr g bm n acc)) (fun _ x _ => no - (intOf x).toNat)
  case atStart => exact ⟨0, _, Nat.zero_le _, rfl, rfl, HR0⟩
  case round =>
    clear HR0
    obtain ⟨k, s, hkn, rfl, rfl, HR⟩ := hrel
    by_cases hlt : k < no
    · have hltI : (k : Int) < (no : Int) := by omega
      obtain ⟨x, hx⟩ : ∃ x, old[k]? = some x := ⟨old[k]'(by have := HNO.out; omega), List.getElem?_eq_getElem _⟩
      have hv := HO.out.below HR.out.2.1
      rw [HNO.out] at hv
      obtain ⟨ab, ao, rfl, hab, hra⟩ := hv.at hx
      have HRA := Lib.hid hra
      have HTS := Lib.hid (trP_take (l := l) (f := votedF vs) hx)
      have HXW := Lib.hid (HWO.out x (List.mem_of_getElem? hx))
      clear hv hab hra hx
      go_upto_region 6 with (first
        | (refine wpList_load_rowT (by rfl) 54 (.tmp 19) rfl ab (ao + k * 34) rfl (vaC x) _ HRA.out Tryz.underlying54 rfl (by rw [vaC_size]; kernel_rfl) ?_)
        | (refine wpList_store_row rfl 54 (.tmp 10) (.tmp 20) rfl wr.heap.size (vaC x) rfl rfl 54 _ (heap_alloc_new _ _) (by rw [vaC_size]; kernel_rfl) (by rw [vaC_size]; rfl) (vaC_one _) ?_; rw [World.setRow_alloc_new]))
      have hba := below_alloc wr (.cells (vaC x) 54)
      have HQ := Lib.hid (heap_alloc_new wr (.cells (vaC x) 54))
      have HB2 := Lib.hid (HR.out.2.1.trans (hba.mono HR.out.2.1.size))
      have HV2 := Lib.hid (HR.out.2.2.below hba)
      obtain ⟨q, hq⟩ : ∃ q, q = wr.heap.size := ⟨_, rfl⟩
      rw [← hq] at HQ ⊢
      clear hba hq
      generalize wr.alloc (.cells (vaC x) 54) = w3 at *
      have HCC := Lib.hid (votersC_any x l (votedF vs) l.length g bm n acc w3 HV2.out HAC.out HXW.out)
      cases hf : foundB l (votedF vs) l.length x with
      | true =>
        rw [hf] at HCC HTS
        simp only [if_true] at HTS
        clear hf
        go_upto_region 7 with (first
          | (refine wpList_load_rowT (by rfl) 54 (.tmp 10) rfl q 0 rfl (vaC x) _ (rowT_range HQ.out) Tryz.underlying54 rfl (by rw [vaC_size]; kernel_rfl) ?_)
          | (go_at_call 152; (with_reducible refine HCC.out.mono ?_); rintro e w4 ⟨rfl, hb⟩; replace HB2 := Lib.hid (HB2.out.trans (hb.mono HB2.out.size)); replace HV2 := Lib.hid (HV2.out.below hb); replace HQ := Lib.hid ((hb.block _ (bkT_lt HQ.out)).trans HQ.out); clear hb))
        have c33 := (va_cells HQ.out).2.1
        go_wp2_with (fail)
        go_roundw
        case rel => exact ⟨k + 1, wrap64 (s + x.pow), by omega, rfl, by go_num, Lib.hid ⟨by rw [HTS.out, HR.out.1], HB2.out, HV2.out⟩⟩
        case measure => simp [intOf]; omega
      | false =>
        rw [hf] at HCC HTS
        simp only [Bool.false_eq_true, if_false] at HTS
        clear hf
        go_wp2_with (first
          | (refine wpList_load_rowT (by rfl) 54 (.tmp 10) rfl q 0 rfl (vaC x) _ (rowT_range HQ.out) Tryz.underlying54 rfl (by rw [vaC_size]; kernel_rfl) ?_)
          | (go_at_call 152; (with_reducible refine HCC.out.mono ?_); rintro e w4 ⟨rfl, hb⟩; replace HB2 := Lib.hid (HB2.out.trans (hb.mono HB2.out.size)); replace HV2 := Lib.hid (HV2.out.below hb); clear hb))
        go_roundw
        case rel => exact ⟨k + 1, s, by omega, rfl, by go_num, Lib.hid ⟨by rw [HTS.out]; exact HR.out.1, HB2.out, HV2.out⟩⟩
        case measure => simp [intOf]; omega
    · obtain rfl : k = no := by omega
      have HTO2 := Lib.hid (HTO.out wr (HO.out.below HR.out.2.1))
      have HEQ := Lib.hid (show E = if thirdB s (totV old) then none else some 32 from by rw [HEE.out, HR.out.1, HNO.out, List.take_length]; rfl)
      have HB := Lib.hid HR.out.2.1
      clear HR HTO HEE
      cases ht : thirdB s (totV old) with
      | true =>
        rw [ht] at HEQ
        have HTT := Lib.hid (fun w => by have := HTH.out s (totV old) w; rw [ht] at this; exact this)
        clear ht
        go_wp2_with (first
          | (go_at_call 24; (with_reducible refine HTO2.out.mono ?_); rintro e w3 ⟨rfl, hb⟩; replace HB := Lib.hid (HB.out.trans (hb.mono HB.out.size)); clear hb)
          | (go_at_call 117; (with_reducible refine (HTT.out _).mono ?_); rintro e w4 ⟨rfl, rfl⟩))
        go_ret
        exact ⟨by rw [HEQ.out]; rfl, HB.out⟩
      | false =>
        rw [ht] at HEQ
        have HTT := Lib.hid (fun w => by have := HTH.out s (totV old) w; rw [ht] at this; exact this)
        clear ht
        go_wp2_with (first
          | (go_at_call 24; (with_reducible refine HTO2.out.mono ?_); rintro e w3 ⟨rfl, hb⟩; replace HB := Lib.hid (HB.out.trans (hb.mono HB.out.size)); clear hb)
          | (go_at_call 117; (with_reducible refine (HTT.out _).mono ?_); rintro e w4 ⟨rfl, rfl⟩))
        go_ret
        exact ⟨by rw [HEQ.out]; rfl, HB.out⟩
end Go.Proofs.YteokgklfljhcaaaGreatDoor
namespace Go.Proofs.YteokgklfljhcaaaGreatDoor
set_option linter.unusedVariables false
set_option linter.unusedSimpArgs false
open Go.RowKit
set_option maxRecDepth 100000
set_option linter.unusedSimpArgs false
set_option linter.unusedVariables false
def vA : Va := ⟨{ data := #[97] }, fun _ => 0, 3⟩
def vB : Va := ⟨{ data := #[98] }, fun _ => 0, 1⟩
def voS1 (i : Int) : Vo := ⟨0, 0, 0, fun _ => 0, i, .slice none 0 0, []⟩
def cm0 : Cm := ⟨0, 0, fun _ => 0⟩
theorem sure_ck : ckE [vA, vB] = none := by kernel_rfl
theorem sure_tot : totV [vA, vB] = 4 := by kernel_rfl
theorem sure_vt1 : vtE [vA, vB] [vA, vB] [voS1 1] = some 32 := by kernel_rfl
theorem sure_vt0 : vtE [vA, vB] [vA, vB] [voS1 0] = none := by kernel_rfl
theorem sure_wf : ∀ x ∈ [vA, vB], VaWf x := by
  intro x hx
  simp only [List.mem_cons, List.not_mem_nil, or_false] at hx
  rcases hx with rfl | rfl
  · exact ⟨by show (1 : Nat) ≤ _; omega, fun i _ => by show (0 : Int) ≤ 0 ∧ (0 : Int) < 256; omega⟩
  · exact ⟨by show (1 : Nat) ≤ _; omega, fun i _ => by show (0 : Int) ≤ 0 ∧ (0 : Int) < 256; omega⟩
theorem vA_built : Tryz.prog.built 54 [(0, .string { data := #[97] }), (2, .int .i64 3)] = some (vaC vA) := by kernel_rfl
theorem vB_built : Tryz.prog.built 54 [(0, .string { data := #[98] }), (2, .int .i64 1)] = some (vaC vB) := by kernel_rfl
theorem vo_builtS (i : Int) : Tryz.prog.built 99 [(4, .int .i64 i)] = some (voC (voS1 i)) := by kernel_rfl
theorem cm_builtS (a : Option Addr) (n c : Nat) : Tryz.prog.built 29 [(3, .slice a n c)] = some (cmC cm0 (.slice a n c)) := by kernel_rfl
theorem infoVa : (Tryz.prog.info? 54).map (fun i => (i.zero, i.size, i.bytes)) = some (some (.agg (vaC ⟨{ data := #[] }, fun _ => 0, 0⟩)), 34, 56) := by kernel_rfl
theorem infoVo : (Tryz.prog.info? 99).map (fun i => (i.zero, i.size, i.bytes)) = some (some (.agg (voC (voS1 0))), 37, 88) := by kernel_rfl
theorem va_fill : Instr.fill (fun i => some (i * 34, 34)) ((Array.range (2 * 34)).map ((Value.agg (vaC ⟨{ data := #[] }, fun _ => 0, 0⟩)).cells[· % (Value.agg (vaC ⟨{ data := #[] }, fun _ => 0, 0⟩)).cells.size]!)) [(0, .agg (vaC vA)), (1, .agg (vaC vB))] = some (vaC vA ++ vaC vB) := by kernel_rfl
theorem vo_fill (i : Int) : Instr.fill (fun i => some (i * 37, 37)) ((Array.range (1 * 37)).map ((Value.agg (voC (voS1 0))).cells[· % (Value.agg (voC (voS1 0))).cells.size]!)) [(0, .agg (voC (voS1 i)))] = some (voC (voS1 i)) := by kernel_rfl
theorem wpList_vas {w : World} {ops : Array Oper} {rest : List Oper} {o : Oper} {a : Act} {Q : Exit → Act → World → Prop} (hgd : o.guard = none) (x y : Operand) (ho : o.op = .buildSlice 48 2 #[(0, x), (1, y)]) (hx : a.eval x = .agg (vaC vA)) (hy : a.eval y = .agg (vaC vB))
    (h : wpList Tryz.prog ops Q rest (a.put o.dst (.slice (some ⟨w.heap.size, 0, none⟩) 2 2)) (w.alloc (.cells (vaC vA ++ vaC vB) 54))) : wpList Tryz.prog ops Q (o :: rest) a w := by
  refine wpList_plain hgd fun K hK => ?_
  obtain ⟨i0, hi, hz0, hz1, hz2⟩ := info_parts infoVa
  refine wp_buildSlice 48 54 2 #[(0, x), (1, y)] ho (vaC vA ++ vaC vB) i0 _ Tryz.underlying48 hi hz0 (by rw [hz1]; decide) (by rw [hz1]; decide) ?_ (hK _ _ h)
  rw [hz1]
  simpa [hx, hy] using va_fill
theorem wpList_vo1 {w : World} {ops : Array Oper} {rest : List Oper} {o : Oper} {a : Act} {Q : Exit → Act → World → Prop} (hgd : Region.wanted o (yielded ops a.tmps) = true) (x : Operand) (ho : o.op = .buildSlice 27 1 #[(0, x)]) (i : Int) (hx : a.eval x = .agg (voC (voS1 i)))
    (h : wpList Tryz.prog ops Q rest (a.put o.dst (.slice (some ⟨w.heap.size, 0, none⟩) 1 1)) (w.alloc (.cells (voC (voS1 i)) 99))) : wpList Tryz.prog ops Q (o :: rest) a w := by
  refine BigFrame.wpList_want hgd fun K hK => ?_
  obtain ⟨i0, hi, hz0, hz1, hz2⟩ := info_parts infoVo
  refine wp_buildSlice 27 99 1 #[(0, x)] ho (voC (voS1 i)) i0 _ Tryz.underlying27 hi hz0 (by rw [hz1]; decide) (by rw [hz1]; decide) ?_ (hK _ _ h)
  rw [hz1]
  simpa [hx] using vo_fill i
theorem vas_in (w : World) : VaIn (w.alloc (.cells (vaC vA ++ vaC vB) 54)) (.slice (some ⟨w.heap.size, 0, none⟩) 2 2) [vA, vB] := by
  refine ⟨_, 2, rfl, Nat.le_refl _, by simp [maxLen], .inr ⟨_, 0, rfl, by simp, fun i s hi j v hv => ?_⟩⟩
  have hj : j < 34 := by have := (List.getElem?_eq_some_iff.1 hv).1; simpa [vaC_size] using this
  rw [cell_of_row _ _ _ _ _ _ (heap_alloc_new w _)]
  match i, hi with
  | 0, hi =>
    simp only [List.getElem?_cons_zero, Option.some.injEq] at hi
    subst hi
    rw [Array.getElem?_append_left (by rw [vaC_size]; omega)]
    simpa using hv
  | 1, hi =>
    simp only [List.getElem?_cons_succ, List.getElem?_cons_zero, Option.some.injEq] at hi
    subst hi
    rw [Array.getElem?_append_right (by rw [vaC_size]; omega), vaC_size]
    simpa using hv
theorem vo1_in (w : World) (i : Int) : VoIn (w.alloc (.cells (voC (voS1 i)) 99)) (.slice (some ⟨w.heap.size, 0, none⟩) 1 1) [voS1 i] := by
  refine ⟨_, 1, rfl, Nat.le_refl _, by simp [maxLen], .inr ⟨_, 0, rfl, by simp, fun k s hi => ?_⟩⟩
  match k, hi with
  | 0, hi =>
    simp only [List.getElem?_cons_zero, Option.some.injEq] at hi
    subst hi
    exact rowT_range (heap_alloc_new w _)
theorem vo1_sv (i : Int) : ∀ t ∈ [voS1 i], ∃ a n c, t.sv = .slice a n c := by
  intro t ht
  rw [List.mem_singleton.1 ht]
  exact ⟨_, _, _, rfl⟩
theorem wpList_builtW {P : Program} {ops : Array Oper} {rest : List Oper} {o : Oper} {a : Act} {w : World} {Q : Exit → Act → World → Prop} (hg : Region.wanted o (yielded ops a.tmps) = true) (t : TypeId) (parts : Array (Nat × Operand)) (ho : o.op = .build t parts) (cells : Array Value)
    (hf : P.built t (parts.map fun (i, x) => (i, a.eval x)).toList = some cells)
    (h : wpList P ops Q rest (a.put o.dst (.agg cells)) w) : wpList P ops Q (o :: rest) a w := by
  exact BigFrame.wpList_want hg fun K hK => wp_build t parts ho (by rw [hf]; rfl) (by rw [hf]; exact hK _ _ h)
set_option maxHeartbeats 4000000 in
theorem tysure_any (w : World) (hg : ErrType w) : Calls Tryz.prog 19 #[] w fun e w' => e = .returned (.bool true) ∧ Below w.heap.size w w' := by
  have HG := Lib.hid hg
  have HZ := Lib.hid (show ∀ x ∈ [vA, vB], x.name.size ≤ 140737488351232 from fun x hx => (sure_wf x hx).1)
  clear hg
  go_enter Tryz.func19, Tryz.ntmps19
  go_upto_region 2 with (first
    | (refine wpList_builtT rfl 54 #[(0, .const (.string { data := #[97] })), (2, .const (.int .i64 3))] rfl (vaC vA) (by refine Eq.trans (congrArg (Tryz.prog.built 54) ?_) vA_built; kernel_rfl) ?_)
    | (refine wpList_builtT rfl 54 #[(0, .const (.string { data := #[98] })), (2, .const (.int .i64 1))] rfl (vaC vB) (by refine Eq.trans (congrArg (Tryz.prog.built 54) ?_) vB_built; kernel_rfl) ?_)
    | (refine wpList_vas rfl (.tmp 2) (.tmp 3) rfl rfl rfl ?_))
  have HV := Lib.hid (vas_in w)
  have HB := Lib.hid (below_alloc w (.cells (vaC vA ++ vaC vB) 54))
  generalize w.alloc (.cells (vaC vA ++ vaC vB) 54) = w1 at *
  obtain ⟨g, hgq⟩ : ∃ g, g = w.heap.size := ⟨_, rfl⟩
  rw [← hgq] at HV ⊢
  clear hgq
  have HCK := Lib.hid (fun w h => checkset_any [vA, vB] (.slice (some ⟨g, 0, none⟩) 2 2) w h HZ.out)
  rw [sure_ck] at HCK
  have HTO := Lib.hid (fun w h => total_any [vA, vB] (.slice (some ⟨g, 0, none⟩) 2 2) w h)
  rw [sure_tot] at HTO
  have HT1 := Lib.hid (fun vv w h1 h2 => vtrust_any [vA, vB] [vA, vB] [voS1 1] cm0 (.slice (some ⟨g, 0, none⟩) 2 2) (.slice (some ⟨g, 0, none⟩) 2 2) vv w h1 h1 h2 sure_wf sure_wf (by simp) (vo1_sv 1))
  rw [sure_vt1] at HT1
  have HT0 := Lib.hid (fun vv w h1 h2 => vtrust_any [vA, vB] [vA, vB] [voS1 0] cm0 (.slice (some ⟨g, 0, none⟩) 2 2) (.slice (some ⟨g, 0, none⟩) 2 2) vv w h1 h1 h2 sure_wf sure_wf (by simp) (vo1_sv 0))
  rw [sure_vt0] at HT0
  have HNU := Lib.hid (show ∀ w, ErrType w → Calls Tryz.prog 6 #[.iface 78 (.int .i64 32)] w fun r w' => r = .returned (.int .i64 32) ∧ Below w.heap.size w w' from fun w h => num_any (some 32) w h)
  simp only [errV] at HCK HT1 HT0
  clear HZ
  go_wp2_with (first
    | (go_at_call 22; (with_reducible refine (HCK.out _ HV.out).mono ?_); rintro e w2 ⟨rfl, hb⟩; replace HV := Lib.hid (HV.out.below hb); replace HB := Lib.hid (HB.out.trans (hb.mono HB.out.size)); clear hb)
    | (go_at_call 24; (with_reducible refine (HTO.out _ HV.out).mono ?_); rintro e w3 ⟨rfl, hb⟩; replace HV := Lib.hid (HV.out.below hb); replace HB := Lib.hid (HB.out.trans (hb.mono HB.out.size)); clear hb)
    | (refine wpList_builtW (by rfl) 99 #[(4, .const (.int .i64 1))] rfl (voC (voS1 1)) (by refine Eq.trans (congrArg (Tryz.prog.built 99) ?_) (vo_builtS 1); kernel_rfl) ?_)
    | (refine wpList_builtW (by rfl) 99 #[(4, .const (.int .i64 0))] rfl (voC (voS1 0)) (by refine Eq.trans (congrArg (Tryz.prog.built 99) ?_) (vo_builtS 0); kernel_rfl) ?_)
    | (refine wpList_vo1 (by rfl) (.tmp 16) rfl 1 rfl ?_; have HO := Lib.hid (vo1_in w3 1); replace HV := Lib.hid (HV.out.below (below_alloc w3 (.cells (voC (voS1 1)) 99))); replace HB := Lib.hid (HB.out.alloc HB.out.size (.cells (voC (voS1 1)) 99)); obtain ⟨g1, hg1⟩ : ∃ g, g = w3.heap.size := ⟨_, rfl⟩; rw [← hg1] at HO ⊢; clear hg1; generalize w3.alloc (.cells (voC (voS1 1)) 99) = w4 at *)
    | (refine wpList_builtW (by rfl) 29 #[(3, .tmp 17)] rfl (cmC cm0 (.slice (some ⟨g1, 0, none⟩) 1 1)) (by refine Eq.trans (congrArg (Tryz.prog.built 29) ?_) (cm_builtS _ _ _); kernel_rfl) ?_)
    | (go_at_call 67; (with_reducible refine (HT1.out _ _ HV.out HO.out).mono ?_); rintro e w5 ⟨rfl, hb⟩; replace HV := Lib.hid (HV.out.below hb); replace HB := Lib.hid (HB.out.trans (hb.mono HB.out.size)); clear hb HO)
    | (go_at_call 6; (with_reducible refine (HNU.out _ (HG.out.below HB.out)).mono ?_); rintro e w6 ⟨rfl, hb⟩; replace HV := Lib.hid (HV.out.below hb); replace HB := Lib.hid (HB.out.trans (hb.mono HB.out.size)); clear hb)
    | (refine wpList_vo1 (by rfl) (.tmp 26) rfl 0 rfl ?_; have HO2 := Lib.hid (vo1_in w6 0); replace HV := Lib.hid (HV.out.below (below_alloc w6 (.cells (voC (voS1 0)) 99))); replace HB := Lib.hid (HB.out.alloc HB.out.size (.cells (voC (voS1 0)) 99)); obtain ⟨g2, hg2⟩ : ∃ g, g = w6.heap.size := ⟨_, rfl⟩; rw [← hg2] at HO2 ⊢; clear hg2; generalize w6.alloc (.cells (voC (voS1 0)) 99) = w7 at *)
    | (refine wpList_builtW (by rfl) 29 #[(3, .tmp 27)] rfl (cmC cm0 (.slice (some ⟨g2, 0, none⟩) 1 1)) (by refine Eq.trans (congrArg (Tryz.prog.built 29) ?_) (cm_builtS _ _ _); kernel_rfl) ?_)
    | (go_at_call 67; (with_reducible refine (HT0.out _ _ HV.out HO2.out).mono ?_); rintro e w8 ⟨rfl, hb⟩; replace HV := Lib.hid (HV.out.below hb); replace HB := Lib.hid (HB.out.trans (hb.mono HB.out.size)); clear hb HO2))
  go_ret
  exact ⟨rfl, HB.out⟩
end Go.Proofs.YteokgklfljhcaaaGreatDoor
namespace Go.Proofs.YteokgklfljhcaaaGreatDoor
set_option linter.unusedVariables false
set_option linter.unusedSimpArgs false
open Go.RowKit
set_option maxRecDepth 1000000
set_option linter.unusedSimpArgs false
set_option linter.unusedVariables false
/-- what came in, in memory -/
structure BbX (g1 : Nat) (HC CC : Array Value) (tv vv : Value) (ts : List Tb) (l : List Vo) (w : World) : Prop where
  h1 : w.heap[g1]? = some (.cells (bkD HC tv CC) 31 (0, 0))
  t : TbIn w tv ts
  tb : ∀ t ∈ ts, BytesIn w t.bv t.bs
  v : VoIn w vv l
  vs : ∀ t ∈ l, BytesIn w t.sv t.sign
end Go.Proofs.YteokgklfljhcaaaGreatDoor
namespace Go.Proofs.YteokgklfljhcaaaGreatDoor
set_option linter.unusedVariables false
set_option linter.unusedSimpArgs false
open Go.RowKit
set_option maxRecDepth 100000
set_option linter.unusedSimpArgs false
set_option linter.unusedVariables false
set_option maxHeartbeats 4000000 in
theorem enccommit_any (c : Cm) (l : List Vo) (vv : Value) (w : World) (hv : VoIn w vv l) (hs : ∀ t ∈ l, BytesIn w t.sv t.sign) (ho : ∀ t ∈ l, VoFl t) (hc : CmFl c) (hl : (cmL c l).length + 400 ≤ 140737488355328) :
    Calls Tryz.prog 64 #[.agg (cmC c vv), .func (.func 65) #[] #[]] w fun e w' => ∃ vb, e = .returned vb ∧ BytesIn w' vb (cmL c l) ∧ Below w.heap.size w w' := by
  have HBA := Lib.hid (below_alloc w (.cells (cmC c vv) 29))
  have HQ := Lib.hid (heap_alloc_new w (.cells (cmC c vv) 29))
  have HL := Lib.hid hl
  have HCW := Lib.hid (show ∀ g, (w.alloc (.cells (cmC c vv) 29)).heap.size ≤ g → ∀ v XS w2, WAt w2 g v XS → Below (w.alloc (.cells (cmC c vv) 29)).heap.size (w.alloc (.cells (cmC c vv) 29)) w2 → XS.length + (cmL c l).length + 10 ≤ 140737488355328 → Calls Tryz.prog 65 #[.pointer (some ⟨g, 0, none⟩), .agg (cmC c vv)] w2 fun e w' => e = .returned (.tuple #[]) ∧ WsR g v w2 (XS ++ cmL c l) w' from fun g hg v XS w2 hw hB hr => wcommit_any _ g hg c l vv (hv.below HBA.out) (fun t m => (hs t m).below HBA.out) ho hc v XS w2 hw hB hr)
  obtain ⟨CC, hCC⟩ : ∃ x, x = cmC c vv := ⟨_, rfl⟩
  have HCS := Lib.hid ((congrArg Array.size hCC).trans (cmC_size _ _))
  rw [← hCC] at HBA HQ HCW ⊢
  obtain ⟨LL, hLL⟩ : ∃ x, x = cmL c l := ⟨_, rfl⟩
  rw [← hLL] at HL HCW ⊢
  clear hl hCC hLL hv hs ho hc
  go_enter Tryz.func64, Tryz.ntmps64
  go_upto_region 1 with (fail)
  generalize w.alloc (.cells CC 29) = w1 at *
  go_wp2_with (first
    | (go_at_call 107; (with_reducible refine (new_any w1).mono ?_); rintro e w2 ⟨rfl, hw, hb⟩; have HW := Lib.hid hw; have HB2 := Lib.hid hb; replace HQ := Lib.hid ((hb.block _ (bkT_lt HQ.out)).trans HQ.out); clear hw hb)
    | (refine wpList_load_rowT (by rfl) 29 (.tmp 2) rfl w.heap.size 0 rfl CC _ (rowT_range HQ.out) Tryz.underlying29 rfl (by rw [HCS.out]; kernel_rfl) ?_)
    | (go_at_call 65; (with_reducible refine (HCW.out w1.heap.size (Nat.le_refl _) _ [] w2 HW.out HB2.out (by have := HL.out; simp only [List.length_nil]; omega)).mono ?_); rintro e w3 ⟨rfl, v3, hw, hs⟩; have HB3 := Lib.hid (HB2.out.trans (hs.below HW.out (Nat.le_refl _))); replace HW := Lib.hid (show WAt w3 w1.heap.size v3 LL from hw); clear hw hs)
    | (go_at_call 108; (with_reducible refine (done_any w1.heap.size _ _ w3 HW.out (by have := HL.out; omega)).mono ?_); rintro e w4 ⟨vb, rfl, ho, hb⟩; have HO := Lib.hid ho; have HB4 := Lib.hid (HB3.out.trans (hb.mono HB3.out.size)); clear ho hb))
  go_ret
  exact ⟨_, rfl, owns_in HO.out (by have := HL.out; unfold maxLen; omega), HBA.out.trans (HB4.out.mono HBA.out.size)⟩
set_option maxHeartbeats 4000000 in
theorem ecommit_any (c : Cm) (l : List Vo) (vv : Value) (w : World) (hv : VoIn w vv l) (hs : ∀ t ∈ l, BytesIn w t.sv t.sign) (ho : ∀ t ∈ l, VoFl t) (hc : CmFl c) (hl : (cmL c l).length + 400 ≤ 140737488355328) :
    Calls Tryz.prog 17 #[.agg (cmC c vv)] w fun e w' => ∃ vb, e = .returned vb ∧ BytesIn w' vb (cmL c l) ∧ Below w.heap.size w w' := by
  have HBA := Lib.hid (below_alloc w (.cells (cmC c vv) 29))
  have HQ := Lib.hid (heap_alloc_new w (.cells (cmC c vv) 29))
  have HC := Lib.hid (enccommit_any c l vv (w.alloc (.cells (cmC c vv) 29)) (hv.below HBA.out) (fun t m => (hs t m).below HBA.out) ho hc hl)
  obtain ⟨CC, hCC⟩ : ∃ x, x = cmC c vv := ⟨_, rfl⟩
  have HCS := Lib.hid ((congrArg Array.size hCC).trans (cmC_size _ _))
  rw [← hCC] at HBA HQ HC ⊢
  clear hl hCC hv hs ho hc
  go_enter Tryz.func17, Tryz.ntmps17
  go_upto_region 1 with (fail)
  generalize w.alloc (.cells CC 29) = w1 at *
  go_wp2_with (first
    | (refine wpList_load_rowT (by rfl) 29 (.tmp 1) rfl w.heap.size 0 rfl CC _ (rowT_range HQ.out) Tryz.underlying29 rfl (by rw [HCS.out]; kernel_rfl) ?_)
    | (go_at_call 64; (with_reducible refine HC.out.mono ?_); rintro e w2 ⟨vb, rfl, hin, hb⟩; have HO := Lib.hid hin; have HB2 := Lib.hid hb; clear hin hb))
  go_ret
  exact ⟨_, rfl, HO.out, HBA.out.trans (HB2.out.mono HBA.out.size)⟩
end Go.Proofs.YteokgklfljhcaaaGreatDoor

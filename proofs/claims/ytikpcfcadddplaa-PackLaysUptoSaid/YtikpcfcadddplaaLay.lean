/- lay: a Thing is laid by the Writer and by the reference. -/
import Derived.Test.YtikpcfcadddplaaBack
import Derived.Test.YtikpcfcadddplaaRef
namespace Go.Proofs.Ytikpcfcadddplaa
open Go.RowKit
set_option maxRecDepth 100000
/-- what is laid of a Thing -/
def layT (t : TH) : List Int :=
  if unat t.kind % 6 = 1 then varint (zig t.int)
  else if unat t.kind % 6 = 2 then truthB (decide (0 < t.int))
  else if unat t.kind % 6 = 3 then varint t.bytes.length ++ t.bytes
  else if unat t.kind % 6 = 4 then rowL 32 t.hash
  else varint (unat t.int)
/-- the copy of the Thing, the reference's bytes and the Thing's own are there -/
structure LEnv (w : World) (g : Nat) (b : Value) (bs : List Int) (t : TH) : Prop where
  copy : w.heap[g]? = some (.cells t.cells.toArray 30 (0, 0))
  ref : BytesIn w b bs
  own : BytesIn w t.bv t.bytes
theorem LEnv.lt {w : World} {g : Nat} {b : Value} {bs : List Int} {t : TH} (h : LEnv w g b bs t) : g < w.heap.size := (Array.getElem?_eq_some_iff.1 h.copy).1
theorem LEnv.below {w w' : World} {g : Nat} {b : Value} {bs : List Int} {t : TH} (h : LEnv w g b bs t) (hb : Below w.heap.size w w') : LEnv w' g b bs t :=
  ⟨(hb.block g h.lt).trans h.copy, h.ref.below hb, h.own.below hb⟩
theorem LEnv.step {w w' : World} {g p : Nat} {v v' b : Value} {bs : List Int} {t : TH} (h : LEnv w g b bs t) (hs : WStep p v v' w w') (hg : g ≠ p ∧ some g ≠ v.ownBlock) (hb : bs ≠ [] → Apart p v b) (ht : t.bytes ≠ [] → Apart p v t.bv) : LEnv w' g b bs t :=
  ⟨(hs.block g h.lt hg.1 hg.2).trans h.copy, h.ref.step hs hb, h.own.step hs ht⟩
/-- the answer of lay -/
def LayPost (p : Nat) (xs : List Int) (t : TH) (w : World) (e : Ending) (w' : World) : Prop :=
  ∃ vb v', e = .returned vb ∧ WAt w' p v' (xs ++ layT t) ∧ BytesIn w' vb (xs ++ layT t) ∧ Apart p v' vb ∧ Below p w w'
/-- the Writer's step and the reference's answer behind it -/
theorem lay_end {p : Nat} {v3 vb : Value} {xs ys : List Int} {w w3 w4 : World} {t : TH} (hy : ys = layT t) (hw : WAt w3 p v3 (xs ++ ys)) (hb : Below p w w3) (ho : w4.ownsRow w3.heap.size 5 1 vb (xs ++ ys).length (byteVals (xs ++ ys))) (hb4 : Below w3.heap.size w3 w4) (hl : (xs ++ ys).length ≤ maxLen) :
    LayPost p xs t w (.returned vb) w4 := by
  subst hy
  refine ⟨vb, v3, rfl, hw.below hb4, owns_in ho hl, fun k hk => ?_, hb.trans (hb4.mono (Nat.le_of_lt hw.lt))⟩
  have h1 := (ho.lt k hk).1
  have h2 := hw.lt
  exact ⟨by omega, fun e => by have := hw.ne k e.symm; omega⟩
theorem grown_none {w w' : World} (h : w.grownBy w' none) : Below w.heap.size w w' := ⟨h.os, h.tape, h.output, h.size, fun k hk => h.block k hk fun e => by cases e⟩
theorem BytesIn.only2 {w w' : World} {y : Value} {ys : List Int} {m : Nat} (h : BytesIn w y ys) (ho : Only m w w') (hn : ys ≠ [] → ∀ k, y.ownBlock = some k → k ≠ m) : BytesIn w' y ys := by
  obtain ⟨a, c, rfl, hc, hm, hx⟩ := h
  refine ⟨a, c, rfl, hc, hm, ?_⟩
  by_cases he : ys = []
  · exact .inl he
  · obtain ⟨ab, ao, rfl, hx1⟩ := hx.resolve_left he
    exact .inr ⟨ab, ao, rfl, fun i x hi => ho.cell (hx1 i x hi) (hn he ab rfl)⟩
theorem BytesIn.own_lt {w : World} {y : Value} {ys : List Int} (h : BytesIn w y ys) (hn : ys ≠ []) : ∀ k, y.ownBlock = some k → k < w.heap.size := by
  intro k hk
  obtain ⟨a, c, rfl, hc, hm, hx⟩ := h
  obtain ⟨ab, ao, rfl, hx1⟩ := hx.resolve_left hn
  obtain ⟨b, r, rfl⟩ := List.exists_cons_of_ne_nil hn
  simp only [Value.ownBlock, Option.some.injEq] at hk
  subst hk
  exact World.block_lt_of_cell? w _ (hx1 0 b rfl)
theorem LEnv.only {w w' : World} {g m : Nat} {b : Value} {bs : List Int} {t : TH} (h : LEnv w g b bs t) (ho : Only m w w') (hg : g ≠ m) (hb : bs ≠ [] → ∀ k, b.ownBlock = some k → k ≠ m) (ht : t.bytes ≠ [] → ∀ k, t.bv.ownBlock = some k → k ≠ m) : LEnv w' g b bs t :=
  ⟨(ho.block g h.lt hg).trans h.copy, h.ref.only2 ho hb, h.own.only2 ho ht⟩
theorem WAt.only {w w' : World} {p m : Nat} {v : Value} {xs : List Int} (h : WAt w p v xs) (ho : Only m w w') (hp : p ≠ m) (hv : v.ownBlock ≠ some m) : WAt w' p v xs := by
  refine ⟨(ho.block p h.lt hp).trans h.1, h.2.kept (row := some m) ⟨ho.os, ho.tape, ho.output, ho.size, fun k hk hne => ho.block k hk fun e => hne (by rw [e])⟩ (.inr hv)⟩
/-- the bytes of 'mine' are made '!': its array is there all the while -/
def MineAt (w : World) (m n : Nat) : Prop := ∃ cur, w.heap[m]? = some (.cells cur 5 (0, 0)) ∧ n ≤ cur.size
theorem MineAt.cell {w : World} {m n : Nat} (h : MineAt w m n) (i : Nat) (hi : i < n) : (∃ u, w.cell? ⟨m, i, none⟩ = some u) ∧ w.frozen? ⟨m, i, none⟩ = false := by
  obtain ⟨cur, hc, hn⟩ := h
  refine ⟨⟨cur[i]'(by omega), ?_⟩, frozen_of_row w m i _ _ hc⟩
  rw [cell_of_row w m i _ _ _ hc]
  exact Array.getElem?_eq_getElem (by omega)
theorem MineAt.set {w : World} {m n : Nat} (h : MineAt w m n) (i : Nat) (u : Value) : MineAt (w.setCell ⟨m, i, none⟩ u) m n := by
  obtain ⟨cur, hc, hn⟩ := h
  exact ⟨_, heap_setCell_same w m i _ _ u hc, by simpa using hn⟩
set_option maxHeartbeats 4000000 in
theorem lay_any (p : Nat) (v b : Value) (xs : List Int) (t : TH) (w : World) (hw : WAt w p v xs) (hb : BytesIn w b xs) (hba : xs ≠ [] → Apart p v b) (ht : THok t) (hbv : BytesIn w t.bv t.bytes) (hta : t.bytes ≠ [] → ∀ k, t.bv.ownBlock = some k → k < p) (htl : t.bytes.length ≤ 1048576) (hl : xs.length ≤ 125833500) :
    Calls Try.prog 7 #[.pointer (some ⟨p, 0, none⟩), b, .agg t.cells.toArray] w (LayPost p xs t w) := by
  have HB1 := below_alloc w (.cells t.cells.toArray 30)
  have HE1 : LEnv (w.alloc (.cells t.cells.toArray 30)) w.heap.size b xs t := ⟨heap_alloc_new w _, hb.below HB1, hbv.below HB1⟩
  have HW1 := hw.below HB1
  have HBA := Lib.hid hba
  have HTA := Lib.hid (fun h => Apart.of_lt hw (hta h))
  have HBO := Lib.hid (fun h => hb.own_lt h)
  have HTO := Lib.hid hta
  have HVO := Lib.hid (fun k hk => (hw.ne k hk))
  have HG0 : w.heap.size ≠ p ∧ some w.heap.size ≠ v.ownBlock := ⟨by have := hw.lt; omega, fun e => by have := hw.ne _ e.symm; omega⟩
  have HP := Lib.hid (HB1.mono (Nat.le_of_lt hw.lt))
  have HPL := hw.lt
  replace HE1 := Lib.hid HE1
  replace HW1 := Lib.hid HW1
  have HT := Lib.hid ht
  have HTL := Lib.hid htl
  have HL := Lib.hid hl
  have hS1 : (w.alloc (.cells t.cells.toArray 30)).heap.size = w.heap.size + 1 := size_alloc _ _
  obtain ⟨g, hg⟩ : ∃ g, g = w.heap.size := ⟨_, rfl⟩
  have hu1 := wrap_unat t.kind
  have hu2 := wrap_unat t.int
  have hmod : ((unat t.kind : Nat) : Int).tmod 6 = ((unat t.kind % 6 : Nat) : Int) := by rw [Int.tmod_eq_emod_of_nonneg (by omega)]; omega
  obtain ⟨ba, bc, hbvs, _⟩ := hbv
  clear hw hb hba ht hta htl hl HB1
  go_enter Try.func7, Try.ntmps7
  go_upto_region 2 with (fail)
  generalize w.alloc (.cells t.cells.toArray 30) = w1 at *
  rw [← hg] at HE1 HG0 ⊢
  replace hg := Lib.hid hg
  replace hS1 := Lib.hid hS1
  obtain ⟨hf10, hf11, hf12, hf13⟩ := copy_facts HE1.out.copy
  rw [hbvs] at hf12
  have HOW1 := Lib.hid (show BytesIn w1 (.slice ba t.bytes.length bc) t.bytes by rw [← hbvs]; exact HE1.out.own)
  have hown0 := World.ownsRow_nil w1 w1.heap.size 5 1
  replace hown0 := Lib.hid hown0
  go_upto_region 3 with (at_builtin; refine wpList_append_bytes rfl (.tmp 9) (.tmp 11) rfl rfl w1.heap.size _ 0 [] rfl hown0.out _ t.bytes rfl HOW1.out (by have := HTL.out; omega) (Nat.le_refl _) ?_; intro v7 w2 ho hgr _; rw [Nat.zero_add, List.nil_append] at ho; have HM := Lib.hid ho; have HB12 := Lib.hid (grown_none hgr); clear ho hgr)
  have HE := Lib.hid (HE1.out.below HB12.out)
  have HW := Lib.hid (HW1.out.below HB12.out)
  have HB := Lib.hid (HP.out.trans (HB12.out.mono (by rw [hS1.out]; omega)))
  have hf2 := copy_facts HE.out.copy
  have HG := Lib.hid HG0
  have HGL := Lib.hid (show glen (unat t.int) ≤ 10 ∧ glen (zig t.int) ≤ 10 ∧ glen t.bytes.length ≤ 10 from ⟨glen_le (unat_lt t.int), glen_le (zig_lt HT.out.int.1 HT.out.int.2), glen_le (by have := HTL.out; omega)⟩)
  obtain ⟨M, hM⟩ : ∃ M, M = w1.heap.size := ⟨_, rfl⟩
  rw [← hM] at HM
  have HMW := Lib.hid (show w.heap.size ≤ M ∧ p < w.heap.size from ⟨by have := hS1.out; omega, HPL⟩)
  have HM2 := Lib.hid (fun k hk => (HM.out.lt k hk))
  have HMG := Lib.hid (show g < M by have := hg.out; have := hS1.out; omega)
  clear HE1 HW1 HP hf10 hf11 hf12 hf13 hown0 HB12 HG0 hS1 hg HPL hM
  obtain ⟨hf20, hf21, hf22, hf23⟩ := hf2
  rw [hbvs] at hf22
  by_cases hr1 : unat t.kind % 6 = 1
  · rw [hr1] at hmod
    have HLT := Lib.hid (show varint (zig t.int) = layT t by unfold layT; rw [if_pos hr1])
    go_wp2_with (first
      | (go_at_call 10; (with_reducible refine (wint_any p _ t.int xs _ HW.out HT.out.int.1 HT.out.int.2 (by have := HL.out; omega)).mono ?_); rintro e w3 ⟨rfl, v3, hw, hs⟩; replace HB := Lib.hid (HB.out.trans (hs.below HW.out (Nat.le_refl _))); have HE3 := Lib.hid (HE.out.step hs HG.out HBA.out HTA.out); have hf3 := copy_facts HE3.out.copy; have HW3 := Lib.hid hw; clear hw hs; obtain ⟨hf30, hf31, hf32, hf33⟩ := hf3)
      | (go_at_call 25; (with_reducible refine (dInt_any b xs t.int _ HE3.out.ref HT.out.int.1 HT.out.int.2 (by have := HL.out; omega)).mono ?_); rintro e w4 ⟨vb, rfl, ho, hb⟩; replace ho := Lib.hid ho; replace hb := Lib.hid hb))
    go_ret
    exact lay_end HLT.out HW3.out HB.out ho.out hb.out (by have := HL.out; have := HTL.out; have := HGL.out; simp only [List.length_append, varint_length]; unfold maxLen; omega)
  · by_cases hr2 : unat t.kind % 6 = 2
    · rw [hr2] at hmod
      have HLT := Lib.hid (show truthB (decide (0 < t.int)) = layT t by unfold layT; rw [if_neg hr1, if_pos hr2])
      clear hr1
      go_wp2_with (first
        | (go_at_call 13; (with_reducible refine (wbool_any p _ xs (decide (0 < t.int)) _ HW.out (by have := HL.out; omega)).mono ?_); rintro e w3 ⟨rfl, v3, hw, hs⟩; replace HB := Lib.hid (HB.out.trans (hs.below HW.out (Nat.le_refl _))); have HE3 := Lib.hid (HE.out.step hs HG.out HBA.out HTA.out); have hf3 := copy_facts HE3.out.copy; have HW3 := Lib.hid hw; clear hw hs; obtain ⟨hf30, hf31, hf32, hf33⟩ := hf3)
        | (go_at_call 26; (with_reducible refine (dBool_any b xs (decide (0 < t.int)) _ HE3.out.ref (by have := HL.out; omega)).mono ?_); rintro e w4 ⟨vb, rfl, ho, hb⟩; replace ho := Lib.hid ho; replace hb := Lib.hid hb))
      go_ret
      exact lay_end HLT.out HW3.out HB.out ho.out hb.out (by have := HL.out; have := HTL.out; have := HGL.out; simp only [List.length_append, truthB, List.length_cons, List.length_nil]; unfold maxLen; omega)
    · by_cases hr3 : unat t.kind % 6 = 3
      · rw [hr3] at hmod
        have HLT := Lib.hid (show varint t.bytes.length ++ t.bytes = layT t by unfold layT; rw [if_neg hr1, if_neg hr2, if_pos hr3])
        clear hr1 hr2
        have HOW2 := Lib.hid (show BytesIn w2 (.slice ba t.bytes.length bc) t.bytes by rw [← hbvs]; exact HE.out.own)
        have hcv := conv_bytes w2 _ _ HOW2.out
        have HV7 := Lib.hid (owns_in HM.out (by have := HTL.out; unfold maxLen; omega))
        obtain ⟨a7, c7, rfl⟩ := owns_wide HM.out
        have HAP := Lib.hid (show t.bytes ≠ [] → Apart p v (.slice a7 t.bytes.length c7) from fun _ k hk => by
          have h1 := (HM2.out k hk).1
          have h2 := HMW.out
          exact ⟨by omega, fun e => by have := HVO.out k e.symm; omega⟩)
        by_cases hpos : 0 < t.int
        all_goals
          go_wp2_with (first
            | (go_at_call 11; (with_reducible refine (wtext_nums p _ t.bytes xs _ HW.out HT.out.bytes (by have := HL.out; have := HTL.out; omega)).mono ?_); rintro e w3 ⟨rfl, v3, hw, hs⟩; replace HB := Lib.hid (HB.out.trans (hs.below HW.out (Nat.le_refl _))); have HE3 := Lib.hid (HE.out.step hs HG.out HBA.out HTA.out); have HS3 := Lib.hid hs; have HW3 := Lib.hid hw; clear hw hs)
            | (go_at_call 15; (with_reducible refine (wbytes_any p _ _ xs t.bytes _ HW.out HV7.out HAP.out (by have := HL.out; have := HTL.out; omega)).mono ?_); rintro e w3 ⟨rfl, v3, hw, hs⟩; replace HB := Lib.hid (HB.out.trans (hs.below HW.out (Nat.le_refl _))); have HE3 := Lib.hid (HE.out.step hs HG.out HBA.out HTA.out); have HS3 := Lib.hid hs; have HW3 := Lib.hid hw; clear hw hs))
          have HREL := Lib.hid (show (t.bytes.length = 0 ∧ w3 = w3) ∨ ∃ m, a7 = some ⟨m, 0, none⟩ ∧ MineAt w3 m t.bytes.length ∧ Only m w3 w3 from by
            rcases HM.out.2 with ⟨_, h0⟩ | ⟨m, cap, cur, e, hb, hh, hc, _, hcs, _⟩
            · exact .inl ⟨h0, rfl⟩
            · injection e with e1 _ e3
              have h1 := HM2.out m (by rw [e1]; rfl)
              have h2 := HMW.out
              exact .inr ⟨m, e1, ⟨cur, (HS3.out.block m h1.2 (by omega) fun e => by have := HVO.out m e.symm; omega).trans hh, by omega⟩, Only.refl _ _⟩)
          have HEND := Lib.hid (fun (m : Nat) (wr : World) (ha : a7 = some ⟨m, 0, none⟩) (ho : Only m w3 wr) => (show WAt wr p v3 (xs ++ (varint t.bytes.length ++ t.bytes)) ∧ LEnv wr g b xs t ∧ Below p w wr from by
            have h1 := HM2.out m (by rw [ha]; rfl)
            have h2 := HMW.out
            have h3 := HMG.out
            refine ⟨HW3.out.only ho (by omega) fun e => ?_, HE3.out.only ho (by omega) (fun hn k hk => ?_) (fun hn k hk => ?_), HB.out.trans (ho.below (by omega) (Nat.le_of_lt HW3.out.lt))⟩
            · rcases HS3.out.own with h | ⟨k, h, hk⟩
              · have := HVO.out m (by rw [← h]; exact e); omega
              · rw [h] at e; injection e; omega
            · have := HBO.out hn k hk; omega
            · have := HTO.out hn k hk; omega))
          go_loopw [8] (fun i wr => ∃ j : Nat, j ≤ t.bytes.length ∧ i = .int .i64 j ∧ Hid ((t.bytes.length = 0 ∧ wr = w3) ∨ ∃ m, a7 = some ⟨m, 0, none⟩ ∧ MineAt wr m t.bytes.length ∧ Only m w3 wr)) (fun i _ => t.bytes.length - (intOf i).toNat)
          case atStart => exact ⟨0, Nat.zero_le _, rfl, HREL.out⟩
          case round =>
            clear HREL
            obtain ⟨j, hj, rfl, H⟩ := hrel
            by_cases hlt : j < t.bytes.length
            · obtain ⟨m, rfl, hma, hon⟩ := H.out.resolve_left (by rintro ⟨h0, _⟩; omega)
              obtain ⟨⟨u0, hc0⟩, hf0⟩ := hma.cell j hlt
              have hjl : (j : Int) < (t.bytes.length : Int) := by omega
              have hjm : j < 1048576 := by have := HTL.out; omega
              have HMA := Lib.hid hma
              have HON := Lib.hid hon
              clear H hma hon
              go_wp2_with (fail)
              go_roundw
              case rel => exact ⟨j + 1, by omega, by simp, .inr ⟨m, rfl, HMA.out.set j _, HON.out.trans (Only.setCell wr ⟨m, j, none⟩ _)⟩⟩
              case measure => simp [intOf]; omega
            · have hjl : ¬ (j : Int) < (t.bytes.length : Int) := by omega
              have HF := Lib.hid (show WAt wr p v3 (xs ++ (varint t.bytes.length ++ t.bytes)) ∧ LEnv wr g b xs t ∧ Below p w wr from by
                rcases H.out with ⟨_, rfl⟩ | ⟨m, ha, _, ho⟩
                · exact ⟨HW3.out, HE3.out, HB.out⟩
                · exact HEND.out m wr ha ho)
              have HW4 := Lib.hid HF.out.1
              have HE4 := Lib.hid HF.out.2.1
              have HB4 := Lib.hid HF.out.2.2
              obtain ⟨hf40, hf41, hf42, hf43⟩ := copy_facts HE4.out.copy
              rw [hbvs] at hf42
              have HOW4 := Lib.hid (show BytesIn wr (.slice ba t.bytes.length bc) t.bytes by rw [← hbvs]; exact HE4.out.own)
              clear H HF
              go_wp2_with (go_at_call 27; (with_reducible refine (dBytes_any b _ xs t.bytes _ HE4.out.ref HOW4.out (by have := HL.out; have := HTL.out; omega)).mono ?_); rintro e w4 ⟨vb, rfl, ho, hb⟩; replace ho := Lib.hid ho; replace hb := Lib.hid hb)
              go_ret
              exact lay_end HLT.out HW4.out HB4.out ho.out hb.out (by have := HL.out; have := HTL.out; have := HGL.out; simp only [List.length_append, varint_length]; unfold maxLen; omega)
      · by_cases hr4 : unat t.kind % 6 = 4
        · rw [hr4] at hmod
          have HLT := Lib.hid (show rowL 32 t.hash = layT t by unfold layT; rw [if_neg hr1, if_neg hr2, if_neg hr3, if_pos hr4])
          clear hr1 hr2 hr3
          have hi1 : (Try.prog.info? 28).map (·.size) = some (rowOf .u8 32 t.hash).toList.length := by rw [Array.length_toList, rowOf_size]; kernel_rfl
          replace hf23 := Lib.hid hf23
          go_wp2_with (first
            | (refine wpList_load_mid rfl 28 (.tmp 69) rfl g 3 rfl _ _ hf23.out Try.underlying28 rfl hi1 ?_; rw [Array.toArray_toList])
            | (refine wpList_load_mid rfl 28 (.tmp 73) rfl g 3 rfl _ _ hf33.out Try.underlying28 rfl hi1 ?_; rw [Array.toArray_toList])
            | (go_at_call 12; (with_reducible refine (whash_any p _ xs t.hash _ HW.out (by have := HL.out; omega)).mono ?_); rintro e w3 ⟨rfl, v3, hw, hs⟩; replace HB := Lib.hid (HB.out.trans (hs.below HW.out (Nat.le_refl _))); have HE3 := Lib.hid (HE.out.step hs HG.out HBA.out HTA.out); have hf3 := copy_facts HE3.out.copy; have HW3 := Lib.hid hw; clear hw hs; obtain ⟨hf30, hf31, hf32, hf33⟩ := hf3; replace hf33 := Lib.hid hf33)
            | (go_at_call 28; (with_reducible refine (dHash_any b xs t.hash _ HE3.out.ref (by have := HL.out; omega)).mono ?_); rintro e w4 ⟨vb, rfl, ho, hb⟩; replace ho := Lib.hid ho; replace hb := Lib.hid hb))
          go_ret
          exact lay_end HLT.out HW3.out HB.out ho.out hb.out (by have := HL.out; have := HTL.out; have := HGL.out; simp only [List.length_append, rowL_length]; unfold maxLen; omega)
        · have HLT := Lib.hid (show varint (unat t.int) = layT t by unfold layT; rw [if_neg hr1, if_neg hr2, if_neg hr3, if_neg hr4])
          have h05 : unat t.kind % 6 = 0 ∨ unat t.kind % 6 = 5 := by omega
          clear hr1 hr2 hr3 hr4
          rcases h05 with h0 | h0
          all_goals rw [h0] at hmod
          all_goals
            go_wp2_with (first
              | (go_at_call 9; (with_reducible refine (wuint_any p _ xs (unat t.int) _ HW.out (unat_lt t.int) (by have := HL.out; omega)).mono ?_); rintro e w3 ⟨rfl, v3, hw, hs⟩; replace HB := Lib.hid (HB.out.trans (hs.below HW.out (Nat.le_refl _))); have HE3 := Lib.hid (HE.out.step hs HG.out HBA.out HTA.out); have hf3 := copy_facts HE3.out.copy; have HW3 := Lib.hid hw; clear hw hs; obtain ⟨hf30, hf31, hf32, hf33⟩ := hf3)
              | (go_at_call 29; (with_reducible refine (dUint_any b xs (unat t.int) _ HE3.out.ref (unat_lt t.int) (by have := HL.out; omega)).mono ?_); rintro e w4 ⟨vb, rfl, ho, hb⟩; replace ho := Lib.hid ho; replace hb := Lib.hid hb))
            go_ret
            exact lay_end HLT.out HW3.out HB.out ho.out hb.out (by have := HL.out; have := HTL.out; have := HGL.out; simp only [List.length_append, varint_length]; unfold maxLen; omega)
#print axioms lay_any
end Go.Proofs.Ytikpcfcadddplaa

/- PackBack: the walk. -/
import Derived.Test.YtikpcfcadddplaaBackR
namespace Go.Proofs.Ytikpcfcadddplaa
open Go.RowKit
/-- what the walk knows of Thing k, in whatever world that has only new blocks -/
theorem thing_facts {B : Nat} {W w : World} {b o : Nat} {t : TH} (h : ThingAt W b o t) (hB : B = W.heap.size) (hb : Below B W w) :
    w.cell? ⟨b, o, none⟩ = some (.int .i64 t.kind) ∧ w.cell? ⟨b, o + 1, none⟩ = some (.int .i64 t.int) ∧ w.cell? ⟨b, o + 2, none⟩ = some t.bv ∧ w.rangeAt b (o + 3) (rowOf .u8 32 t.hash).toList ∧ (convert 25 9 t.bv).run Try.prog w = .ok (.string (strOfNums t.bytes)) w := by
  subst hB
  have hc : ∀ j v, t.cells[j]? = some v → w.cell? ⟨b, o + j, none⟩ = some v := fun j v hv => by
    have h1 := h.cells j v hv
    exact (hb.cell (World.block_lt_of_cell? W _ h1)).trans h1
  refine ⟨hc 0 _ rfl, hc 1 _ rfl, hc 2 _ rfl, fun j v hv => ?_, conv_bytes w _ _ (h.bytes.below hb)⟩
  rw [Nat.add_assoc]
  have hj : j < 32 := by have := (List.getElem?_eq_some_iff.1 hv).1; simpa [rowOf] using this
  refine hc (3 + j) v ?_
  rw [TH.cells_hash t j hj, ← hv]
  simp [rowOf, hj]
theorem wpList_store_new {P : Program} {wr : World} {old : Array Value} {t : TypeId} {ops : Array Oper} {rest : List Oper} {o : Oper} {a : Act} {Q : Exit → Act → World → Prop} (hgd : o.guard = none) (ty : TypeId) (x y : Operand) (ho : o.op = .store ty x y)
    (cells : Array Value) (hx : a.eval x = .pointer (some ⟨wr.heap.size, 0, none⟩)) (hy : a.eval y = .agg cells) (hi : (P.info? ty).map (·.size) = some cells.size) (hold : old.size = cells.size) (h1 : cells.all (·.oneCell') = true)
    (h : ∀ w1, w1.heap[wr.heap.size]? = some (.cells cells t (0, 0)) → Below wr.heap.size wr w1 → wpList P ops Q rest (a.put o.dst undef) w1) : wpList P ops Q (o :: rest) a (wr.alloc (.cells old t)) :=
  wpList_store_row hgd ty x y ho wr.heap.size cells hx hy t old (heap_alloc_new wr _) hi hold h1 (h _ (setRow_heap _ _ _ _ _ _ (heap_alloc_new wr _)) (below_setRow (below_alloc wr _) (Nat.le_refl _) _))
theorem TH.size (t : TH) : t.cells.toArray.size = 35 := by rw [List.size_toArray, TH.cells_length]
theorem cells_one (t : TH) {a : Option Addr} {n c : Nat} (h : t.bv = .slice a n c) : t.cells.toArray.all (·.oneCell') = true := by
  refine all_oneCell_toArray fun v hv => ?_
  unfold TH.cells at hv
  rcases List.mem_append.1 hv with h1 | h1
  · simp only [List.mem_cons, List.not_mem_nil, or_false] at h1
    rcases h1 with rfl | rfl | rfl
    · rfl
    · rfl
    · rw [h]; rfl
  · have := Array.all_eq_true_iff_forall_mem.1 (rowOf_one .u8 32 t.hash)
    exact this v (by simpa using h1)
/-- the facts of the copy of a Thing in block g -/
theorem copy_facts {w : World} {g : Nat} {t : TH} (h : w.heap[g]? = some (.cells t.cells.toArray 30 (0, 0))) :
    w.cell? ⟨g, 0, none⟩ = some (.int .i64 t.kind) ∧ w.cell? ⟨g, 1, none⟩ = some (.int .i64 t.int) ∧ w.cell? ⟨g, 2, none⟩ = some t.bv ∧ w.rangeAt g 3 (rowOf .u8 32 t.hash).toList := by
  have hc : ∀ i v, t.cells[i]? = some v → w.cell? ⟨g, i, none⟩ = some v := fun i v hv => by
    rw [cell_of_row w g i _ _ _ h]; simpa using hv
  refine ⟨hc 0 _ rfl, hc 1 _ rfl, hc 2 _ rfl, fun j v hv => ?_⟩
  have hj : j < 32 := by have := (List.getElem?_eq_some_iff.1 hv).1; simpa [rowOf] using this
  refine hc (3 + j) v ?_
  rw [TH.cells_hash t j hj, ← hv]
  simp [rowOf, hj]
theorem left_nil (q : Nat) (w : World) (h : RS w q ([], none)) : Calls Try.prog 24 #[.pointer (some ⟨q, 0, none⟩)] w fun e w' => e = .returned (.int .i64 0) ∧ w' = w := by
  obtain ⟨y, hy⟩ := h
  exact left_any q y [] none w hy
set_option maxRecDepth 100000 in
set_option maxHeartbeats 4000000 in
theorem back_any (v : Value) (ts : List TH) (W : World) (hx : ThingsIn W v ts) (hs : Small ts) :
    Calls Try.prog 4 #[v] W fun e W' => e = .returned (.bool true) ∧ Below W.heap.size W W' := by
  obtain ⟨a, cap, rfl, hcap, hmax, hx⟩ := hx
  have HS := Lib.hid hs
  have HX := Lib.hid hx
  have hlen : ts.length ≤ 9223372036854775807 := by unfold maxLen at hmax; omega
  obtain ⟨n, hn⟩ : ∃ n, n = min ts.length 60 := ⟨_, rfl⟩
  have hn1 : n ≤ ts.length := by omega
  have hn60 : n ≤ 60 := by omega
  have HN := Lib.hid (show (if (60 : Int) < (ts.length : Int) then (60 : Int) else (ts.length : Int)) = (n : Int) by split <;> omega)
  obtain ⟨B, hB⟩ : ∃ B, B = W.heap.size := ⟨_, rfl⟩
  rw [← hB]
  replace hB := Lib.hid hB
  have HA := Lib.hid (Below.refl B W)
  clear hs hx hn hmax hcap
  go_enter Try.func4, Try.ntmps4
  go_upto_region 5 with (first
    | (go_at_call 6; (with_reducible refine (new_p _).mono ?_); rintro e w1 ⟨p, rfl, hp, HW, HB⟩; replace hp := Lib.hid (show B ≤ p by rw [hB.out]; exact hp); replace HA := Lib.hid (HA.out.trans (HB.mono (by rw [hB.out]; exact Nat.le_refl _))); replace HW := Lib.hid HW; clear HB)
    | (refine wpList_min2 rfl (.tmp 13) (.const (.int .i64 60)) 3 rfl (ts.length : Int) 60 rfl rfl (n : Int) HN.out ?_))
  go_wp2_with (fail)
  go_loopw [5] (fun i wr => ∃ k : Nat, k ≤ n ∧ i = .int .i64 k ∧ Hid (Below B W wr ∧ ∃ v, WAt wr p v (encL (ts.take k)))) (fun i _ => 60 - (intOf i).toNat)
  case atStart => exact ⟨0, Nat.zero_le _, rfl, HA.out, _, HW.out⟩
  case round =>
    clear HA HW
    obtain ⟨k, hk, rfl, H⟩ := hrel
    by_cases hlt : k < n
    · have hkl : k < ts.length := by omega
      obtain ⟨t, ht⟩ : ∃ t, ts[k]? = some t := ⟨_, List.getElem?_eq_getElem hkl⟩
      obtain ⟨b, off, rfl, hbW, hall⟩ := HX.out.resolve_left (by rintro rfl; simp at hkl)
      have HT := Lib.hid (hall k t ht)
      have htm := HS.out t (List.mem_of_getElem? ht)
      obtain ⟨ba, bc, hbv, _⟩ := (hall k t ht).bytes
      have hki : (k : Int) < (ts.length : Int) := by omega
      have hkn : (k : Int) < (n : Int) := by omega
      have hTA := hall k t ht
      obtain ⟨kd, it, bv, bs, hf⟩ := t
      simp only at hbv
      subst hbv
      obtain ⟨htok, htl⟩ := htm
      have hwr := wrap_unat it
      have hS8 := Lib.hid (fun (w : World) (hb : Below B W w) => (thing_facts hTA hB.out hb : w.cell? ⟨b, off + k * 35, none⟩ = some (.int .i64 kd) ∧ w.cell? ⟨b, off + k * 35 + 1, none⟩ = some (.int .i64 it) ∧ w.cell? ⟨b, off + k * 35 + 2, none⟩ = some (.slice ba bs.length bc) ∧ w.rangeAt b (off + k * 35 + 3) (rowOf .u8 32 hf).toList ∧ (convert 25 9 (.slice ba bs.length bc)).run Try.prog w = .ok (.string (strOfNums bs)) w))
      have hYin := Lib.hid (fun (w : World) (hb : Below B W w) => (hTA.bytes.below (by rw [← hB.out]; exact hb) : BytesIn w (.slice ba bs.length bc) bs))
      have hbs := Lib.hid (show bs ≠ [] → ∀ j, (Value.slice ba bs.length bc).ownBlock = some j → j < B from fun hne j hj => by
        obtain ⟨a', c', e', _, _, hx1⟩ := hTA.bytes
        injection e' with e1 e2 e3
        subst e1
        obtain ⟨ab, ao, rfl, hx2⟩ := hx1.resolve_left hne
        obtain ⟨x, r, rfl⟩ := List.exists_cons_of_ne_nil hne
        simp only [Value.ownBlock, Option.some.injEq] at hj
        subst hj
        rw [hB.out]; exact World.block_lt_of_cell? W _ (hx2 0 x rfl))
      replace ht := Lib.hid ht
      replace htok := Lib.hid htok
      replace htl := Lib.hid htl
      clear hall hTA
      have hu1 := Try.underlying28
      have hi1 : (Try.prog.info? 28).map (·.size) = some (rowOf .u8 32 hf).toList.length := by rw [Array.length_toList, rowOf_size]; kernel_rfl
      have hl1 : (rowOf .u8 32 hf).toList.length = 32 := by rw [Array.length_toList, rowOf_size]
      have HK := Lib.hid (show k ≤ 60 by omega)
      obtain ⟨v0, HW⟩ := H.out.2
      have HA := Lib.hid H.out.1
      replace HW := Lib.hid HW
      clear H
      replace HW : Hid (WAt wr.drew p v0 (encL (ts.take k))) := HW
      replace HA : Hid (Below B W wr.drew) := Lib.hid HA.out.drew
      have hS0 := hS8.out _ HA.out
      have HLN := Lib.hid (encL_take_len HS.out HK.out)
      have HTK := Lib.hid (encL_take ht.out)
      have HG := Lib.hid (show glen (unat it) ≤ 10 ∧ glen (zig it) ≤ 10 ∧ glen bs.length ≤ 10 from ⟨glen_le (unat_lt it), glen_le (zig_lt htok.out.int.1 htok.out.int.2), glen_le (by have := htl.out; simp only at this; omega)⟩)
      go_upto_region 8 with (fail)
      go_region_held3 (fun w => w.cell? ⟨b, off + k * 35, none⟩ = some (.int .i64 kd) ∧ w.cell? ⟨b, off + k * 35 + 1, none⟩ = some (.int .i64 it) ∧ w.cell? ⟨b, off + k * 35 + 2, none⟩ = some (.slice ba bs.length bc) ∧ w.rangeAt b (off + k * 35 + 3) (rowOf .u8 32 hf).toList ∧ (convert 25 9 (.slice ba bs.length bc)).run Try.prog w = .ok (.string (strOfNums bs)) w)
        (exact hS0)
        (first
          | (go_at_call 9; (with_reducible refine (wuint_any p _ _ (unat it) _ HW.out (unat_lt it) (by have := HLN.out; omega)).mono ?_); rintro e w2 ⟨rfl, v2, HW2, HS2⟩; replace HA := Lib.hid (HA.out.trans (HS2.below HW.out hp.out)); replace HW := Lib.hid HW2; have hS0 := hS8.out _ HA.out; clear HW2 HS2)
          | (go_at_call 10; (with_reducible refine (wint_any p _ it _ _ HW.out htok.out.int.1 htok.out.int.2 (by have := HLN.out; have := HG.out; simp only [List.length_append, varint_length]; omega)).mono ?_); rintro e w2 ⟨rfl, v2, HW2, HS2⟩; replace HA := Lib.hid (HA.out.trans (HS2.below HW.out hp.out)); replace HW := Lib.hid HW2; have hS0 := hS8.out _ HA.out; clear HW2 HS2)
          | (go_at_call 13; (with_reducible refine (wbool_any p _ _ (decide (0 < kd)) _ HW.out (by have := HLN.out; have := HG.out; simp only [List.length_append, varint_length]; omega)).mono ?_); rintro e w2 ⟨rfl, v2, HW2, HS2⟩; replace HA := Lib.hid (HA.out.trans (HS2.below HW.out hp.out)); replace HW := Lib.hid HW2; have hS0 := hS8.out _ HA.out; clear HW2 HS2)
          | (go_at_call 15; (with_reducible refine (wbytes_any p _ _ _ bs _ HW.out (hYin.out _ HA.out) (fun hne => Apart.of_lt HW.out fun j hj => Nat.lt_of_lt_of_le (hbs.out hne j hj) hp.out) (by have := HLN.out; have := HG.out; have := htl.out; simp only [List.length_append, varint_length, truthB, List.length_cons, List.length_nil] at *; omega)).mono ?_); rintro e w2 ⟨rfl, v2, HW2, HS2⟩; replace HA := Lib.hid (HA.out.trans (HS2.below HW.out hp.out)); replace HW := Lib.hid HW2; have hS0 := hS8.out _ HA.out; clear HW2 HS2)
          | (go_at_call 12; rw [Array.toArray_toList]; (with_reducible refine (whash_any p _ _ hf _ HW.out (by have := HLN.out; have := HG.out; have := htl.out; simp only [List.length_append, varint_length, truthB, List.length_cons, List.length_nil] at *; omega)).mono ?_); rintro e w2 ⟨rfl, v2, HW2, HS2⟩; replace HA := Lib.hid (HA.out.trans (HS2.below HW.out hp.out)); replace HW := Lib.hid HW2; have hS0 := hS8.out _ HA.out; clear HW2 HS2)
          | (go_at_call 11; (with_reducible refine (wtext_nums p _ bs _ _ HW.out htok.out.bytes (by have := HLN.out; have := HG.out; have := htl.out; simp only [List.length_append, varint_length, truthB, rowL_length, List.length_cons, List.length_nil] at *; omega)).mono ?_); rintro e w2 ⟨rfl, v2, HW2, HS2⟩; replace HA := Lib.hid (HA.out.trans (HS2.below HW.out hp.out)); replace HW := Lib.hid HW2; have hS0 := hS8.out _ HA.out; clear HW2 HS2))
      go_wp2_with (fail)
      go_roundw
      case rel =>
        refine ⟨k + 1, by omega, by simp, HA.out, v2, ?_⟩
        rw [HTK.out]
        have := HW.out
        simp only [List.append_assoc] at this
        simp only [encT, List.append_assoc]
        exact this
      case measure => simp [intOf]; omega
    · obtain rfl : k = n := by omega
      obtain ⟨v0, HW⟩ := H.out.2
      have HA := Lib.hid H.out.1
      have HLN := Lib.hid (encL_take_len HS.out hn60)
      have HOK := Lib.hid (bytesOk_encL (HS.out.take k))
      replace HW := Lib.hid HW
      clear H
      go_upto_region 12 with (first
        | (go_at_call 8; (with_reducible refine (done_any p _ _ _ HW.out (by have := HLN.out; omega)).mono ?_); rintro e w2 ⟨v2, rfl, ho, hb⟩; have hin := Lib.hid (owns_in ho (by have := HLN.out; unfold maxLen; omega)); replace HA := Lib.hid (HA.out.trans (hb.mono (Nat.le_trans hp.out (Nat.le_of_lt HW.out.lt)))); have HWS := Lib.hid hb.size; clear ho hb)
        | (go_at_call 16; (with_reducible refine (read_any _ (encL (ts.take k)) _ hin.out HOK.out (by have := HLN.out; omega)).mono ?_); rintro e w3 ⟨q, y, rfl, hq, hr, hb⟩; have hqB := Lib.hid (Nat.le_trans (Nat.le_trans hp.out (Nat.le_trans (Nat.le_of_lt HW.out.lt) HWS.out)) hq); replace HA := Lib.hid (HA.out.trans (hb.mono (Nat.le_trans hp.out (Nat.le_trans (Nat.le_of_lt HW.out.lt) HWS.out)))); replace hr := Lib.hid (show RS w3 q (encL (ts.take k), none) from ⟨y, hr⟩); clear hb hq))
      clear hin HW HWS
      go_wp2_with (fail)
      go_loopw [7] (fun i wr => ∃ j : Nat, j ≤ k ∧ i = .int .i64 j ∧ Hid (Below B W wr ∧ RS wr q (encL ((ts.take k).drop j), none))) (fun i _ => 60 - (intOf i).toNat)
      case atStart => exact ⟨0, Nat.zero_le _, rfl, HA.out, by rw [List.drop_zero]; exact hr.out⟩
      case round =>
        clear HA hr
        obtain ⟨j, hj, rfl, H⟩ := hrel
        have HR := Lib.hid H.out.2
        have HA := Lib.hid H.out.1
        clear H
        by_cases hlt : j < k
        · have hkl : j < ts.length := by omega
          obtain ⟨t, ht⟩ : ∃ t, ts[j]? = some t := ⟨_, List.getElem?_eq_getElem hkl⟩
          have htk : (ts.take k)[j]? = some t := by rw [List.getElem?_take, if_pos hlt]; exact ht
          obtain ⟨b, off, rfl, hbW, hall⟩ := HX.out.resolve_left (by rintro rfl; simp at hkl)
          have hTA := hall j t ht
          obtain ⟨htok, htl⟩ := HS.out t (List.mem_of_getElem? ht)
          obtain ⟨ba, bc, hbv, _⟩ := (hall j t ht).bytes
          have hED := encL_drop htk
          obtain ⟨kd, it, bv, bs, hf⟩ := t
          simp only at hbv
          subst hbv
          have hki : (j : Int) < (ts.length : Int) := by omega
          have hkn : (j : Int) < (k : Int) := by omega
          have hwr := wrap_unat it
          have HRG := Lib.hid (fun (w : World) (hb : Below B W w) => ((fun i v hv => (hb.cell (p := ⟨b, off + j * 35 + i, none⟩) (by rw [hB.out]; exact hbW)).trans (hTA.cells i v hv)) : w.rangeAt b (off + j * 35) (TH.cells ⟨kd, it, .slice ba bs.length bc, bs, hf⟩)))
          have HCV := Lib.hid (fun (w : World) (hb : Below B W w) => (conv_bytes w _ _ (hTA.bytes.below (by rw [← hB.out]; exact hb)) : (convert 25 9 (.slice ba bs.length bc)).run Try.prog w = .ok (.string (strOfNums bs)) w))
          replace htok := Lib.hid htok
          replace htl := Lib.hid htl
          replace hED := Lib.hid hED
          clear hall hTA ht htk
          go_upto_region 16 with (first
            | (refine wpList_load_mid rfl 30 (.tmp 72) rfl b (off + j * 35) rfl _ _ (HRG.out _ HA.out) Try.underlying30 rfl (by rw [TH.cells_length]; kernel_rfl) ?_)
            | (refine wpList_store_new rfl 30 (.tmp 8) (.tmp 73) rfl _ rfl rfl (by rw [TH.size]; kernel_rfl) ((rfl : (35 : Nat) = 35).trans (TH.size _).symm) (cells_one _ rfl) ?_; intro w1 hg1 hb1; have HG1 := Lib.hid hg1; have HB1 := Lib.hid hb1; clear hg1 hb1))
          have hqg : q < wr.heap.size := by obtain ⟨y, hy⟩ := HR.out; exact hy.lt
          have HA1 := Lib.hid (HA.out.trans (HB1.out.mono (by rw [hB.out]; exact HA.out.size)))
          have HR1 := Lib.hid (show RS w1 q (encT ⟨kd, it, .slice ba bs.length bc, bs, hf⟩ ++ encL ((ts.take k).drop (j + 1)), none) by rw [← hED.out]; obtain ⟨y, hy⟩ := HR.out; exact ⟨y, hy.below HB1.out⟩)
          obtain ⟨g, hg⟩ : ∃ g, g = wr.heap.size := ⟨_, rfl⟩
          rw [← hg] at hqg HG1 ⊢
          have HNE := Lib.hid (show g ≠ q by omega)
          clear hg hqg HR HA HB1 hED HRG
          have hS16 := Lib.hid (fun (w : World) (hb : Below B W w) (hg : w.heap[g]? = some (.cells (TH.cells ⟨kd, it, .slice ba bs.length bc, bs, hf⟩).toArray 30 (0, 0))) => (⟨(copy_facts hg).1, (copy_facts hg).2.1, (copy_facts hg).2.2.1, (copy_facts hg).2.2.2, HCV.out w hb⟩ : w.cell? ⟨g, 0, none⟩ = some (.int .i64 kd) ∧ w.cell? ⟨g, 1, none⟩ = some (.int .i64 it) ∧ w.cell? ⟨g, 2, none⟩ = some (.slice ba bs.length bc) ∧ w.rangeAt g 3 (rowOf .u8 32 hf).toList ∧ (convert 25 9 (.slice ba bs.length bc)).run Try.prog w = .ok (.string (strOfNums bs)) w))
          have HRR := HR1.out
          simp only [encT, List.append_assoc] at HRR
          generalize hR : encL ((ts.take k).drop (j + 1)) = R at *
          replace hR := Lib.hid hR
          have HR : Hid (RS w1.drew q (varint (unat it) ++ (varint (zig it) ++ (truthB (decide (0 < kd)) ++ (varint bs.length ++ (bs ++ (rowL 32 hf ++ (varint bs.length ++ (bs ++ R))))))), none)) := Lib.hid (by obtain ⟨y, hy⟩ := HRR; exact ⟨y, hy.keep rfl fun _ _ _ => rfl⟩)
          have HA : Hid (Below B W w1.drew) := Lib.hid HA1.out.drew
          have HG : Hid (w1.drew.heap[g]? = some (.cells (TH.cells ⟨kd, it, .slice ba bs.length bc, bs, hf⟩).toArray 30 (0, 0))) := HG1
          have hS0 := hS16.out _ HA.out HG.out
          have hu1 := Try.underlying28
          have hi1 : (Try.prog.info? 28).map (·.size) = some (rowOf .u8 32 hf).toList.length := by rw [Array.length_toList, rowOf_size]; kernel_rfl
          have hl1 : (rowOf .u8 32 hf).toList.length = 32 := by rw [Array.length_toList, rowOf_size]
          have hne1 := neqH hf hf
          rw [eqB_self] at hne1
          clear HRR HR1 HA1 HG1
          go_region_held (fun w => w.cell? ⟨g, 0, none⟩ = some (.int .i64 kd) ∧ w.cell? ⟨g, 1, none⟩ = some (.int .i64 it) ∧ w.cell? ⟨g, 2, none⟩ = some (.slice ba bs.length bc) ∧ w.rangeAt g 3 (rowOf .u8 32 hf).toList ∧ (convert 25 9 (.slice ba bs.length bc)).run Try.prog w = .ok (.string (strOfNums bs)) w)
            (exact hS0)
            (first
              | (go_at_call 17; (with_reducible refine (ruint_back q (unat it) _ _ HR.out (unat_lt it)).mono ?_); rintro e w2 ⟨rfl, hr, ho⟩; replace HR := Lib.hid hr; replace HA := Lib.hid (HA.out.trans (ho.below hqB.out (by rw [hB.out]; exact HA.out.size))); replace HG := Lib.hid ((ho.block g (Array.getElem?_eq_some_iff.1 HG.out).1 HNE.out).trans HG.out); have hS0 := hS16.out _ HA.out HG.out; clear hr ho)
              | (go_at_call 18; (with_reducible refine (rint_back q it _ _ HR.out htok.out.int.1 htok.out.int.2).mono ?_); rintro e w2 ⟨rfl, hr, ho⟩; replace HR := Lib.hid hr; replace HA := Lib.hid (HA.out.trans (ho.below hqB.out (by rw [hB.out]; exact HA.out.size))); replace HG := Lib.hid ((ho.block g (Array.getElem?_eq_some_iff.1 HG.out).1 HNE.out).trans HG.out); have hS0 := hS16.out _ HA.out HG.out; clear hr ho)
              | (go_at_call 19; (with_reducible refine (rbool_back q _ _ _ HR.out).mono ?_); rintro e w2 ⟨rfl, hr, ho⟩; replace HR := Lib.hid hr; replace HA := Lib.hid (HA.out.trans (ho.below hqB.out (by rw [hB.out]; exact HA.out.size))); replace HG := Lib.hid ((ho.block g (Array.getElem?_eq_some_iff.1 HG.out).1 HNE.out).trans HG.out); have hS0 := hS16.out _ HA.out HG.out; clear hr ho)
              | (go_at_call 20; (with_reducible refine (rbytes_back q bs _ _ HR.out htl.out).mono ?_); rintro e w2 ⟨vb, rfl, hcvb, hr, ho⟩; replace HR := Lib.hid hr; replace HA := Lib.hid (HA.out.trans (ho.below hqB.out (by rw [hB.out]; exact HA.out.size))); replace HG := Lib.hid ((ho.block g (Array.getElem?_eq_some_iff.1 HG.out).1 HNE.out).trans HG.out); have hS0 := hS16.out _ HA.out HG.out; clear hr ho)
              | (go_at_call 21; (with_reducible refine (rhash_back q hf _ _ HR.out).mono ?_); rintro e w2 ⟨rfl, hr, ho⟩; replace HR := Lib.hid hr; replace HA := Lib.hid (HA.out.trans (ho.below hqB.out (by rw [hB.out]; exact HA.out.size))); replace HG := Lib.hid ((ho.block g (Array.getElem?_eq_some_iff.1 HG.out).1 HNE.out).trans HG.out); have hS0 := hS16.out _ HA.out HG.out; clear hr ho)
              | (go_at_call 22; (with_reducible refine (rtext_back q bs _ _ HR.out htl.out).mono ?_); rintro e w2 ⟨rfl, hr, ho⟩; replace HR := Lib.hid hr; replace HA := Lib.hid (HA.out.trans (ho.below hqB.out (by rw [hB.out]; exact HA.out.size))); replace HG := Lib.hid ((ho.block g (Array.getElem?_eq_some_iff.1 HG.out).1 HNE.out).trans HG.out); have hS0 := hS16.out _ HA.out HG.out; clear hr ho))
          go_wp2_with (fail)
          go_roundw
          case rel => exact ⟨j + 1, by omega, by simp, HA.out, by rw [hR.out]; exact HR.out⟩
          case measure => simp [intOf]; omega
        · obtain rfl : j = k := by omega
          rw [List.drop_eq_nil_of_le (by rw [List.length_take]; omega)] at HR
          replace HR : Hid (RS wr q ([], none)) := HR
          go_wp2_with (first
            | (go_at_call 23; (with_reducible refine (rdone_nil q _ HR.out).mono ?_); rintro e w9 ⟨rfl, rfl⟩)
            | (go_at_call 24; (with_reducible refine (left_nil q _ HR.out).mono ?_); rintro e w9 ⟨rfl, rfl⟩)
            | (go_at_call 14; (with_reducible refine (sure_any _).mono ?_); rintro e w9 ⟨rfl, hb⟩; replace HA := Lib.hid (HA.out.trans (hb.mono (by rw [hB.out]; exact HA.out.size))); clear hb))
          go_ret
          exact ⟨rfl, HA.out⟩
#print axioms back_any
end Go.Proofs.Ytikpcfcadddplaa

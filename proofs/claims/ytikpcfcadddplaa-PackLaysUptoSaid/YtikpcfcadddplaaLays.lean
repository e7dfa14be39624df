/- PackLays: the walk. -/
import Derived.Test.YtikpcfcadddplaaLay
import Derived.Test.YtikpcfcadddplaaNil
namespace Go.Proofs.Ytikpcfcadddplaa
open Go.RowKit
set_option maxRecDepth 100000
def layL : List TH → List Int
  | [] => []
  | t :: r => layT t ++ layL r
theorem layL_append : ∀ (l r : List TH), layL (l ++ r) = layL l ++ layL r
  | [], _ => rfl
  | t :: l, r => by
    show layT t ++ layL (l ++ r) = (layT t ++ layL l) ++ layL r
    rw [layL_append l r, List.append_assoc]
theorem layL_take {ts : List TH} {k : Nat} {t : TH} (h : ts[k]? = some t) : layL (ts.take (k + 1)) = layL (ts.take k) ++ layT t := by
  rw [List.take_add_one, h, Option.toList_some, layL_append]
  show _ ++ (layT t ++ []) = _
  rw [List.append_nil]
theorem layT_len {t : TH} (h : THok t) (hl : t.bytes.length ≤ 1048576) : (layT t).length ≤ 2097225 := by
  have h1 := glen_le (unat_lt t.int)
  have h2 := glen_le (zig_lt h.int.1 h.int.2)
  have h3 := glen_le (show t.bytes.length < 18446744073709551616 by omega)
  unfold layT
  split
  · rw [varint_length]; omega
  · split
    · simp [truthB]
    · split
      · rw [List.length_append, varint_length]; omega
      · split
        · rw [rowL_length]; omega
        · rw [varint_length]; omega
theorem layL_len : ∀ {ts : List TH}, Small ts → (layL ts).length ≤ ts.length * 2097225
  | [], _ => by simp [layL]
  | t :: r, h => by
    have h1 := layT_len (h t (by simp)).1 (h t (by simp)).2
    have h2 := layL_len (ts := r) fun u hu => h u (by simp [hu])
    simp only [layL, List.length_append, List.length_cons]
    omega
theorem layL_take_len {ts : List TH} (h : Small ts) {k : Nat} (hk : k ≤ 60) : (layL (ts.take k)).length ≤ 125833500 := by
  have h1 := layL_len (h.take k)
  have h2 : (ts.take k).length ≤ k := by rw [List.length_take]; omega
  have h3 : (ts.take k).length * 2097225 ≤ 60 * 2097225 := Nat.mul_le_mul_right _ (by omega)
  omega
/-- numbers lie in block m -/
def NumsAt (w : World) (m n : Nat) : Prop := ∃ cur, w.heap[m]? = some (.cells cur 5 (0, 0)) ∧ n ≤ cur.size ∧ ∀ i, i < n → ∃ z, cur[i]? = some (.int .u8 z)
theorem NumsAt.cell {w : World} {m n : Nat} (h : NumsAt w m n) (i : Nat) (hi : i < n) : (∃ z, w.cell? ⟨m, i, none⟩ = some (.int .u8 z)) ∧ w.frozen? ⟨m, i, none⟩ = false := by
  obtain ⟨cur, hc, _, hz⟩ := h
  obtain ⟨z, hz⟩ := hz i hi
  exact ⟨⟨z, by rw [cell_of_row w m i _ _ _ hc]; exact hz⟩, frozen_of_row w m i _ _ hc⟩
theorem NumsAt.set {w : World} {m n : Nat} (h : NumsAt w m n) (i : Nat) (z : Int) : NumsAt (w.setCell ⟨m, i, none⟩ (.int .u8 z)) m n := by
  obtain ⟨cur, hc, hn, hz⟩ := h
  refine ⟨_, heap_setCell_same w m i _ _ _ hc, by simpa using hn, fun j hj => ?_⟩
  rw [Array.getElem?_setIfInBounds]
  by_cases e : i = j
  · subst e
    rw [if_pos rfl, if_pos (by omega)]; exact ⟨z, rfl⟩
  · rw [if_neg e]; exact hz j hj
theorem NumsAt.of_owns {w : World} {base n : Nat} {a : Option Addr} {c : Nat} {xs : List Int} (h : w.ownsRow base 5 1 (.slice a n c) xs.length (byteVals xs)) (hn : n = xs.length) (h0 : n ≠ 0) : ∃ m, a = some ⟨m, 0, none⟩ ∧ base ≤ m ∧ m < w.heap.size ∧ NumsAt w m n := by
  rcases h.2 with ⟨_, h1⟩ | ⟨m, cap, cur, e, hb, hh, hc, _, hcs, ht⟩
  · omega
  · injection e with e1 e2 e3
    refine ⟨m, e1, hb, (Array.getElem?_eq_some_iff.1 hh).1, cur, hh, by omega, fun i hi => ?_⟩
    have h2 : (cur.toList.take (xs.length * 1))[i]? = (byteVals xs)[i]? := by rw [ht]
    rw [List.getElem?_take, if_pos (by omega), Array.getElem?_toList] at h2
    rw [h2]
    simp only [byteVals, List.getElem?_map, List.getElem?_eq_getElem (show i < xs.length by omega)]
    exact ⟨_, rfl⟩
set_option maxHeartbeats 4000000 in
theorem lays_any (v : Value) (ts : List TH) (W : World) (hx : ThingsIn W v ts) (hs : Small ts) :
    Calls Try.prog 3 #[v] W fun e W' => e = .returned (.bool true) ∧ Below W.heap.size W W' := by
  obtain ⟨a, cap, rfl, hcap, hmax, hx⟩ := hx
  have HS := Lib.hid hs
  have HX := Lib.hid hx
  have hlen : ts.length ≤ 9223372036854775807 := by unfold maxLen at hmax; omega
  obtain ⟨B, hB⟩ : ∃ B, B = W.heap.size := ⟨_, rfl⟩
  rw [← hB]
  replace hB := Lib.hid hB
  have HA := Lib.hid (Below.refl B W)
  clear hs hx hmax hcap
  go_enter Try.func3, Try.ntmps3
  go_wp2_with (go_at_call 6; (with_reducible refine (new_p _).mono ?_); rintro e w1 ⟨p, rfl, hp, HW, HB⟩; replace hp := Lib.hid (show B ≤ p by rw [hB.out]; exact hp); replace HA := Lib.hid (HA.out.trans (HB.mono (by rw [hB.out]; exact Nat.le_refl _))); replace HW := Lib.hid HW; clear HB)
  go_loopw [4, 5] (fun b i wr => ∃ k : Nat, k ≤ ts.length ∧ k ≤ 60 ∧ i = .int .i64 k ∧ Hid (Below B W wr ∧ BytesIn wr b (layL (ts.take k)) ∧ ∃ v, WAt wr p v (layL (ts.take k)) ∧ (layL (ts.take k) ≠ [] → Apart p v b))) (fun _ i _ => 60 - (intOf i).toNat)
  case atStart => exact ⟨0, Nat.zero_le _, by decide, rfl, HA.out, nil_in _, _, HW.out, fun h => absurd rfl h⟩
  case round =>
    clear HA HW
    obtain ⟨k, hk, hk60, rfl, H⟩ := hrel
    obtain ⟨v0, HW, HAP⟩ := H.out.2.2
    have HA := Lib.hid H.out.1
    have HBI := Lib.hid H.out.2.1
    have HLN := Lib.hid (layL_take_len HS.out hk60)
    replace HW := Lib.hid HW
    replace HAP := Lib.hid HAP
    clear H
    by_cases hlt : k < ts.length ∧ k < 60
    · have hkl := hlt.1
      obtain ⟨t, ht⟩ : ∃ t, ts[k]? = some t := ⟨_, List.getElem?_eq_getElem hkl⟩
      obtain ⟨bb, off, rfl, hbW, hall⟩ := HX.out.resolve_left (by rintro rfl; simp at hkl)
      have hTA := hall k t ht
      obtain ⟨htok, htl⟩ := HS.out t (List.mem_of_getElem? ht)
      have HTK := Lib.hid (layL_take ht)
      have hki : (k : Int) < (ts.length : Int) := by omega
      have hk40 : (k : Int) < 60 := by omega
      have HRG := Lib.hid (fun (w : World) (hb : Below B W w) => ((fun i v hv => (hb.cell (p := ⟨bb, off + k * 35 + i, none⟩) (by rw [hB.out]; exact hbW)).trans (hTA.cells i v hv)) : w.rangeAt bb (off + k * 35) t.cells))
      have HBV := Lib.hid (fun (w : World) (hb : Below B W w) => (hTA.bytes.below (by rw [← hB.out]; exact hb) : BytesIn w t.bv t.bytes))
      have HBO := Lib.hid (fun (hn : t.bytes ≠ []) (j : Nat) (hj : t.bv.ownBlock = some j) => (Nat.lt_of_lt_of_le (hTA.bytes.own_lt hn j hj) (by rw [← hB.out]; exact hp.out) : j < p))
      replace htok := Lib.hid htok
      replace htl := Lib.hid htl
      clear hall hTA ht hlt
      go_wp2_with (first
        | (refine wpList_load_mid rfl 30 (.tmp 26) rfl bb (off + k * 35) rfl _ _ (HRG.out _ HA.out) Try.underlying30 rfl (by rw [TH.cells_length]; kernel_rfl) ?_)
        | (go_at_call 7; (with_reducible refine (lay_any p v0 _ _ t _ HW.out HBI.out HAP.out htok.out (HBV.out _ HA.out) HBO.out htl.out HLN.out).mono ?_); rintro e w2 ⟨vb, v2, rfl, hw, hbi, hap, hb⟩; rw [← HTK.out] at hw hbi; have HW2 := Lib.hid hw; have HBI2 := Lib.hid hbi; have HAP2 := Lib.hid hap; have HA2 := Lib.hid (HA.out.trans (hb.mono hp.out)); clear hw hbi hap hb))
      go_roundw
      case rel => exact ⟨k + 1, by omega, by omega, by simp, HA2.out, HBI2.out, v2, HW2.out, fun _ => HAP2.out⟩
      case measure => simp [intOf]; omega
    · obtain ⟨w0, rfl⟩ : ∃ w0, w0 = wr := ⟨_, rfl⟩
      have HBW := Lib.hid (show B ≤ w0.heap.size by rw [hB.out]; exact HA.out.size)
      generalize layL (ts.take k) = L at *
      clear HAP
      have hcase : (k < ts.length ∧ 60 ≤ k) ∨ ts.length ≤ k := by omega
      clear hlt
      rcases hcase with ⟨hc1, hc2⟩ | hc1
      all_goals
        have hd1 : (k : Int) < (ts.length : Int) ↔ k < ts.length := by omega
        have hd2 : (k : Int) < 60 ↔ k < 60 := by omega
        go_wp2_with (go_at_call 8; (with_reducible refine (done_any p v0 L _ HW.out (by have := HLN.out; omega)).mono ?_); rintro e w2 ⟨vx, rfl, ho, hb⟩; obtain ⟨ax, cx, rfl⟩ := owns_wide ho; have HOX := Lib.hid ho; have HB2 := Lib.hid hb; clear ho hb)
        have HREL := Lib.hid (show (L.length = 0 ∧ w2 = w2) ∨ ∃ m, ax = some ⟨m, 0, none⟩ ∧ w0.heap.size ≤ m ∧ NumsAt w2 m L.length ∧ Only m w2 w2 from by
          by_cases h0 : L.length = 0
          · exact .inl ⟨h0, rfl⟩
          · obtain ⟨m, h1, h2, _, h4⟩ := NumsAt.of_owns HOX.out rfl h0
            exact .inr ⟨m, h1, h2, h4, Only.refl _ _⟩)
        go_loopw [7] (fun i wr => ∃ j : Nat, j ≤ L.length ∧ i = .int .i64 j ∧ Hid ((L.length = 0 ∧ wr = w2) ∨ ∃ m, ax = some ⟨m, 0, none⟩ ∧ w0.heap.size ≤ m ∧ NumsAt wr m L.length ∧ Only m w2 wr)) (fun i _ => L.length - (intOf i).toNat)
        case atStart => exact ⟨0, Nat.zero_le _, rfl, HREL.out⟩
        case round =>
          clear HREL
          obtain ⟨j, hj, rfl, H⟩ := hrel
          by_cases hlt : j < L.length
          · obtain ⟨m, rfl, hmb, hma, hon⟩ := H.out.resolve_left (by rintro ⟨h0, _⟩; omega)
            obtain ⟨⟨z0, hc0⟩, hf0⟩ := hma.cell j hlt
            have hjl : (j : Int) < (L.length : Int) := by omega
            have hjm : j < 125833500 := by have := HLN.out; omega
            have HMA := Lib.hid hma
            have HON := Lib.hid hon
            have HMB := Lib.hid hmb
            clear H hma hon hmb
            go_wp2_with (fail)
            go_roundw
            case rel => exact ⟨j + 1, by omega, by simp, .inr ⟨m, rfl, HMB.out, HMA.out.set j _, HON.out.trans (Only.setCell _ ⟨m, j, none⟩ _)⟩⟩
            case measure => simp [intOf]; omega
          · have hjl : ¬ (j : Int) < (L.length : Int) := by omega
            have HF := Lib.hid (show Below w0.heap.size w0 wr from by
              rcases H.out with ⟨_, rfl⟩ | ⟨m, _, hmb, _, ho⟩
              · exact HB2.out
              · exact HB2.out.trans (ho.below hmb HB2.out.size))
            have HW3 : Hid (WAt wr.drew p v0 L) := Lib.hid ((HW.out.below HF.out).below ⟨rfl, rfl, rfl, Nat.le_refl _, fun _ _ => rfl⟩)
            have HBI3 := Lib.hid (show BytesIn wr.drew _ L from (HBI.out.below HF.out.drew))
            have HA3 := Lib.hid (HA.out.trans (HF.out.mono HBW.out))
            have HBQ := Lib.hid (Nat.le_trans HBW.out HF.out.size)
            have HQ := Lib.hid (Below.refl wr.drew.heap.size wr.drew)
            have hS0 := conv_bytes _ _ _ (HBI3.out.below HQ.out)
            clear H HW HBI HA HOX HB2 HF
            go_upto_region 15 with (fail)
            (go_region_held (fun w => (convert 25 9 u4).run Try.prog w = .ok (.string (strOfNums L)) w)
              (exact hS0)
              (first
                | (go_at_call 8; (with_reducible refine (done_nil _).mono ?_); rintro e w3 ⟨rfl, rfl⟩)
                | (go_at_call 8; (with_reducible refine (done_any p v0 L _ HW3.out (by have := HLN.out; omega)).mono ?_); rintro e w3 ⟨vy, rfl, ho, hb⟩; have hcvy := conv_bytes w3 vy L (owns_in ho (by have := HLN.out; unfold maxLen; omega)); replace HQ := Lib.hid (HQ.out.trans (hb.mono HQ.out.size)); have hS0 := conv_bytes _ _ _ (HBI3.out.below HQ.out); clear hb ho)
                | (go_at_call 9; (with_reducible refine (uint_nil 1 (by decide) (by decide) _).mono ?_); rintro e w3 ⟨rfl, hb⟩; replace HQ := Lib.hid (HQ.out.trans (hb.mono HQ.out.size)); have hS0 := conv_bytes _ _ _ (HBI3.out.below HQ.out); clear hb)
                | (go_at_call 10; (with_reducible refine (int_nil _).mono ?_); rintro e w3 ⟨rfl, hb⟩; replace HQ := Lib.hid (HQ.out.trans (hb.mono HQ.out.size)); have hS0 := conv_bytes _ _ _ (HBI3.out.below HQ.out); clear hb)
                | (go_at_call 11; (with_reducible refine (text_nil _).mono ?_); rintro e w3 ⟨rfl, hb⟩; replace HQ := Lib.hid (HQ.out.trans (hb.mono HQ.out.size)); have hS0 := conv_bytes _ _ _ (HBI3.out.below HQ.out); clear hb)
                | (go_at_call 12; rw [zeros32]; (with_reducible refine (hash_nil _ _).mono ?_); rintro e w3 ⟨rfl, hb⟩; replace HQ := Lib.hid (HQ.out.trans (hb.mono HQ.out.size)); have hS0 := conv_bytes _ _ _ (HBI3.out.below HQ.out); clear hb)
                | (go_at_call 13; (with_reducible refine (bool_nil _).mono ?_); rintro e w3 ⟨rfl, hb⟩; replace HQ := Lib.hid (HQ.out.trans (hb.mono HQ.out.size)); have hS0 := conv_bytes _ _ _ (HBI3.out.below HQ.out); clear hb)
                | (go_at_call 14; (with_reducible refine (sure_any _).mono ?_); rintro e w3 ⟨rfl, hb⟩; replace HQ := Lib.hid (HQ.out.trans (hb.mono HQ.out.size)); have hS0 := conv_bytes _ _ _ (HBI3.out.below HQ.out); clear hb)))
            go_wp2_with (fail)
            go_ret
            exact ⟨rfl, HA3.out.drew.trans (HQ.out.mono HBQ.out)⟩
#print axioms lays_any
end Go.Proofs.Ytikpcfcadddplaa

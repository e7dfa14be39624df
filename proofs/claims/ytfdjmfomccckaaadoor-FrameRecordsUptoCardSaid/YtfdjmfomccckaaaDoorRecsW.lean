/- FrameRecords: the walk. -/
import Derived.Test.YtfdjmfomccckaaaDoorRecs
namespace Go.Proofs.YtfdjmfomccckaaaDoor
open Go.RowKit
set_option maxRecDepth 100000
theorem grown_trans {a b c : World} {r : Option Nat} (h : a.grownBy b r) (k : b.grownBy c r) : a.grownBy c r :=
  ⟨k.os.trans h.os, k.tape.trans h.tape, k.output.trans h.output, Nat.le_trans h.size k.size, fun i hi hr => (k.block i (Nat.lt_of_lt_of_le hi h.size) hr).trans (h.block i hi hr)⟩
theorem rec_row {w : World} {B N cu : Nat} {au : Option Addr} {zs : List Int} (h : w.ownsRow B 5 1 (.slice au N cu) N (byteVals zs)) (hz : zs.length = N) (ho : bytesOk zs) (k : Nat) (hk : k < N) :
    ∃ (g z : Nat), au = some ⟨g, 0, none⟩ ∧ z < 256 ∧ w.cell? ⟨g, k, none⟩ = some (.int .u8 (z : Int)) ∧ w.frozen? ⟨g, k, none⟩ = false ∧
      ∀ q : Nat, (w.setCell ⟨g, k, none⟩ (.int .u8 (q : Int))).ownsRow B 5 1 (.slice (some ⟨g, 0, none⟩) N cu) N (byteVals (zs.set k (q : Int))) ∧ w.grownBy (w.setCell ⟨g, k, none⟩ (.int .u8 (q : Int))) (some g) := by
  rcases h.2 with ⟨e, h0⟩ | ⟨g, c', cur, e, _, hg, _⟩
  · omega
  · injection e with e
    subst e
    have hx : zs[k]? = some zs[k] := List.getElem?_eq_getElem (by omega)
    have hb := ho _ (List.getElem_mem (show k < zs.length by omega))
    have hc := h.cells (g := g) rfl k (.int .u8 zs[k]) (by simp [byteVals, hx])
    rw [Addr.add_mid, Nat.zero_add] at hc
    refine ⟨g, zs[k].toNat, rfl, by omega, by rw [hc, show ((zs[k].toNat : Nat) : Int) = zs[k] by omega], frozen_of_row _ _ _ _ _ hg, fun q => ?_⟩
    have h2 := h.stored k (.int .u8 (q : Int))
    rw [show (byteVals zs).set k (.int .u8 (q : Int)) = byteVals (zs.set k (q : Int)) by simp [byteVals, List.map_set]] at h2
    exact h2
set_option maxHeartbeats 8000000 in
theorem recs_any (y1 y2 : Value) (p b : List Int) (w : World) (hy1 : BytesIn w y1 p) (hy2 : BytesIn w y2 b) (ho1 : bytesOk p) (ho2 : bytesOk b) (hl1 : p.length ≤ 1048576) (hl2 : b.length ≤ 1048576) (hT : NibAt w) (hE : ErrType w) :
    Calls Tryd.prog 3 #[y1, y2] w fun e w' => e = .returned (.bool true) ∧ Below w.heap.size w w' := by
  have HT := Lib.hid hT
  have HE := Lib.hid hE
  have HY1 := Lib.hid hy1
  have HY2 := Lib.hid hy2
  have HO1 := Lib.hid ho1
  have HO2 := Lib.hid ho2
  have HL1 := Lib.hid hl1
  have HL2 := Lib.hid hl2
  have HB0 := Lib.hid (Below.refl w.heap.size w)
  have HSF := Lib.hid (scanF_few b)
  have hNb : (oneF b).2.length ≤ 1048576 := by
    rcases oneF_cases b with ⟨x, h1, _⟩ | ⟨q, h1, h2⟩
    · rw [h1]; simp
    · rw [h1]; show q.length ≤ 1048576; omega
  have hnot : ∀ (x : Bool) (w : World), (Op.unary .not (.bool x)).run Tryd.prog w = .ok (.bool (!x)) w := fun _ _ => rfl
  obtain ⟨ya1, yc1, rfl, -, -, -⟩ := id hy1
  obtain ⟨ya2, yc2, rfl, -, -, -⟩ := id hy2
  clear hT hE hy1 hy2 ho1 ho2 hl1 hl2
  go_enter Tryd.func3, Tryd.ntmps3
  go_wp2_with (first
    | (go_at_call 7; (with_reducible refine (rec_twin _ b w w HY2.out (by have := HL2.out; omega) HB0.out).mono ?_); rintro e w1 ⟨v1, rfl, h1, hb1, -⟩; have M := Lib.hid h1; have HB1 := Lib.hid hb1; clear h1 hb1)
    | (go_at_call 7; (with_reducible refine (rec_twin _ p w w1 (HY1.out.below HB1.out) (by have := HL1.out; omega) HB1.out).mono ?_); rintro e w2 ⟨v2, rfl, h2, hb2, hbw⟩; have PV := Lib.hid h2; have HB2 := Lib.hid hb2; replace M := Lib.hid (M.out.below hbw); clear h2 hb2 hbw)
    | (go_at_call 8; (with_reducible refine (frame_e v2 p w w2 (HT.out.below HB2.out HT.out.lt) PV.out HO1.out HB2.out).mono ?_); rintro e w3 ⟨vx, rfl, h3, hb3, hbw⟩; have X := Lib.hid h3; have HB3 := Lib.hid hb3; replace M := Lib.hid (M.out.below hbw); clear h3 hb3 hbw PV)
    | (go_at_call 9; (with_reducible refine (rframe_e _ p w w3 (HY1.out.below HB3.out) HO1.out HB3.out).mono ?_); rintro e w4 ⟨vy, rfl, h4, hb4, hbw⟩; have Y := Lib.hid h4; have HB4 := Lib.hid hb4; replace M := Lib.hid (M.out.below hbw); replace X := Lib.hid (X.out.below hbw); clear h4 hb4 hbw)
    | (go_at_call 10; (with_reducible refine (one_e v1 b w w4 (HT.out.below HB4.out HT.out.lt) M.out HO2.out (by have := HL2.out; omega) HB4.out).mono ?_); rintro e w5 ⟨vu, rfl, h5, hb5, hbw⟩; obtain ⟨au, cu, rfl⟩ := owns_wide h5; have U := Lib.hid h5; have HB5 := Lib.hid hb5; have HW5 := Lib.hid hbw; clear h5 hb5 hbw)
    | (go_at_call 11; (with_reducible refine (rone_e _ b w w5 (HY2.out.below HB5.out) HO2.out (by have := HL2.out; omega) HB5.out).mono ?_); rintro e w6 ⟨vv, rfl, h6, hb6, hbw⟩; have V := Lib.hid (h6.below hbw); have HB6 := Lib.hid hb6; replace HW5 := Lib.hid (HW5.out.trans (hbw.mono HW5.out.size)); have hU := kept_below U.out hbw; have hUlt := fun k hk => (U.out.lt k hk); replace U := Lib.hid hU; have UL := Lib.hid (fun k hk => Nat.lt_of_lt_of_le (hUlt k hk).2 hbw.size); clear h6 hb6 hbw hU hUlt)
    | (go_at_call 12; (with_reducible refine (scan_any v1 b w6 (HT.out.below HB6.out HT.out.lt) (M.out.below HW5.out) HO2.out (by have := HL2.out; omega)).mono ?_); rintro e w7 ⟨vl, vsl, rfl, hl, hL, hb7⟩; have HB7 := Lib.hid (HB6.out.trans (hb7.mono HB6.out.size)); replace HW5 := Lib.hid (HW5.out.trans (hb7.mono HW5.out.size)); replace U := Lib.hid (kept_below U.out hb7); replace V := Lib.hid (V.out.below hb7); have LO := Lib.hid hl; have LL := Lib.hid hL; clear hl hL hb7)
    | (go_at_call 13; (with_reducible refine (rscan_any _ b w7 (HY2.out.below HB7.out) HO2.out (by have := HL2.out; omega)).mono ?_); rintro e w8 ⟨vq, vsq, rfl, hq, hQ, hb8⟩; have HB8 := Lib.hid (HB7.out.trans (hb8.mono HB7.out.size)); replace HW5 := Lib.hid (HW5.out.trans (hb8.mono HW5.out.size)); replace U := Lib.hid (kept_below U.out hb8); replace V := Lib.hid (V.out.below hb8); replace LO := Lib.hid (kept_below LO.out hb8); replace LL := Lib.hid (LL.out.below hb8); have QO := Lib.hid hq; have QL := Lib.hid hQ; have cu1 := conv_bytes w8 _ _ (owns_in U.out (by unfold maxLen; omega)); have cv1 := conv_bytes w8 _ _ V.out; clear hq hQ hb8))
  have HNU := Lib.hid (show bytesOk (oneF b).2 from oneF_ok HO2.out)
  generalize hN : (oneF b).2.length = N at U UL cu1 hNb ⊢
  have HN := Lib.hid hN
  have HOwn := Lib.hid (fun k hk => (U.out.lt k hk).1)
  clear hN
  go_loopw [23] (fun i wr => ∃ k : Nat, k ≤ N ∧ i = .int .i64 k ∧ Hid (∃ zs : List Int, zs.length = N ∧ bytesOk zs ∧ wr.ownsRow w4.heap.size 5 1 (.slice au N cu) N (byteVals zs) ∧ w8.grownBy wr (Value.slice au N cu).ownBlock)) (fun i _ => N - (intOf i).toNat)
  case atStart => exact ⟨0, Nat.zero_le _, rfl, (oneF b).2, HN.out, HNU.out, U.out, World.grownBy.refl _ _⟩
  case round =>
    obtain ⟨k, hk, rfl, HR⟩ := hrel
    by_cases hlt : k < N
    · obtain ⟨zs, hz, hzo, hown, hgr⟩ := HR.out
      obtain ⟨g, z, rfl, hzb, hcell, hfr, hset⟩ := rec_row hown hz hzo k hlt
      have ex : bits .xor .u8 (z : Int) 255 = ((z ^^^ 255 : Nat) : Int) := u8_xor_nat z 255 hzb (by decide)
      have hq : z ^^^ 255 < 256 := Nat.xor_lt_two_pow (n := 8) hzb (by decide)
      have HNX := Lib.hid (show ∃ zs : List Int, zs.length = N ∧ bytesOk zs ∧ (wr.setCell ⟨g, k, none⟩ (.int .u8 ((z ^^^ 255 : Nat) : Int))).ownsRow w4.heap.size 5 1 (.slice (some ⟨g, 0, none⟩) N cu) N (byteVals zs) ∧ w8.grownBy (wr.setCell ⟨g, k, none⟩ (.int .u8 ((z ^^^ 255 : Nat) : Int))) (some g) from
        ⟨zs.set k ((z ^^^ 255 : Nat) : Int), by rw [List.length_set]; exact hz, hzo.set k _ ⟨by omega, by omega⟩, (hset _).1, grown_trans hgr (hset _).2⟩)
      clear hz hzo hown hgr hset cu1 cv1
      generalize z ^^^ 255 = q at *
      go_wp2_with (fail)
      go_roundw
      case rel => exact ⟨k + 1, hlt, by go_num, HNX.out⟩
      case measure => simp [intOf]; omega
    · obtain ⟨zs, hz, hzo, hown, hgr⟩ := HR.out
      have HG := Lib.hid hgr
      have cx := conv_bytes wr _ _ (X.out.keep HW5.out hgr HOwn.out)
      have cy := conv_bytes wr _ _ (Y.out.keep HW5.out hgr HOwn.out)
      have M9 := Lib.hid (M.out.keep HW5.out hgr HOwn.out)
      have P9 := Lib.hid ((HY2.out.below HB4.out).keep HW5.out hgr HOwn.out)
      have L9 := Lib.hid (lists_keep LO.out LL.out (by have := HSF.out; have := HL2.out; unfold maxLen; omega) U.out UL.out hgr)
      have Q9 := Lib.hid (rlists_keep (w0 := w4) QO.out ⟨QL.out.1, fun i u p hu hp => QL.out.2 i u p hu hp w4 (HY2.out.below HB4.out)⟩ (by have := HSF.out; have := HL2.out; unfold maxLen; omega) U.out HW5.out HOwn.out hgr)
      have B9 := Lib.hid (HB8.out.grown hgr HB8.out.size (fun k hk => Nat.le_trans HB4.out.size (HOwn.out k hk)))
      have HTN := Lib.hid torn_nil
      clear hz hzo hown hgr cu1 cv1 HR
      go_wp2_with (first
        | (go_at_call 14; (with_reducible refine (rec_num (frameF p).1 w wr (HE.out.below B9.out) B9.out).mono ?_); rintro e wa ⟨rfl, hb, hbw⟩; have BA := Lib.hid hb; replace M9 := Lib.hid (M9.out.below hbw); replace P9 := Lib.hid (P9.out.below hbw); replace L9 := Lib.hid (L9.out.below hbw); replace Q9 := Lib.hid (Q9.out.below hbw); clear hb hbw cx cy)
        | (go_at_call 14; (with_reducible refine (rec_num (oneF b).1 w wa (HE.out.below BA.out) BA.out).mono ?_); rintro e wb ⟨rfl, hb, hbw⟩; have BB := Lib.hid hb; replace M9 := Lib.hid (M9.out.below hbw); replace P9 := Lib.hid (P9.out.below hbw); replace L9 := Lib.hid (L9.out.below hbw); replace Q9 := Lib.hid (Q9.out.below hbw); clear hb hbw)
        | (go_at_call 15; (with_reducible refine (lists_same _ _ (scanF b).1 wb L9.out Q9.out (by have := HSF.out; have := HL2.out; omega)).mono ?_); rintro e wc ⟨rfl, hb⟩; have BC := Lib.hid (BB.out.trans (hb.mono BB.out.size)); replace M9 := Lib.hid (M9.out.below hb); replace P9 := Lib.hid (P9.out.below hb); clear hb)
        | (go_at_call 14; (with_reducible refine (rec_num (scanF b).2.2 w wc (HE.out.below BC.out) BC.out).mono ?_); rintro e wd ⟨rfl, hb, hbw⟩; have BD := Lib.hid hb; replace M9 := Lib.hid (M9.out.below hbw); replace P9 := Lib.hid (P9.out.below hbw); have cm := conv_bytes wd _ _ M9.out; have cb := conv_bytes wd _ _ P9.out; clear hb hbw)
        | (go_at_call 16; (with_reducible refine (rec_torn (oneF b).1 wd).mono ?_); rintro e wd' ⟨rfl, rfl⟩)
        | (go_at_call 16; (with_reducible refine (HTN.out wd).mono ?_); rintro e wd' ⟨rfl, rfl⟩)
        | (go_at_call 17; (with_reducible refine (sumc_any _ b wd (HT.out.below BD.out HT.out.lt) M9.out HO2.out (by have := HL2.out; omega)).mono ?_); rintro e wd' ⟨rfl, rfl⟩)
        | (go_at_call 18; (with_reducible refine (sumr_any _ b wd P9.out HO2.out (by have := HL2.out; omega)).mono ?_); rintro e wd' ⟨rfl, rfl⟩)
        | (go_at_call 19; (with_reducible refine (sp_sure w wd (HT.out.below BD.out HT.out.lt) BD.out).mono ?_); rintro e we ⟨rfl, hb⟩; have BE := Lib.hid hb; clear hb))
      go_ret
      exact ⟨rfl, BE.out⟩
end Go.Proofs.YtfdjmfomccckaaaDoor

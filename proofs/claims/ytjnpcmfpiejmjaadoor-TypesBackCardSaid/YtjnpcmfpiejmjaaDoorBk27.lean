/- Part 27 of the proof. -/
import Derived.Test.YtjnpcmfpiejmjaaDoorBk25
import Derived.Test.YtjnpcmfpiejmjaaDoorBk26
namespace Go.Proofs.YtjnpcmfpiejmjaaDoor
set_option linter.unusedVariables false
set_option linter.unusedSimpArgs false
open Go.RowKit
set_option maxRecDepth 1000000
set_option linter.unusedSimpArgs false
set_option linter.unusedVariables false
/-- what came in, in memory -/
structure BbX (g1 : Nat) (HC CC : Array Value) (tv vv : Value) (ts : List Tb) (l : List Vo) (w : World) : Prop where
  h1 : w.heap[g1]? = some (.cells (bkD HC tv CC) 31 (0, 0))
  t : TbIn w tv ts
  tb : ∀ t ∈ ts, BytesIn w t.bv t.bs
  v : VoIn w vv l
  vs : ∀ t ∈ l, BytesIn w t.sv t.sign
theorem kept_bbx (g1 : Nat) (HC CC : Array Value) (tv vv : Value) (ts : List Tb) (l : List Vo) : Kept (BbX g1 HC CC tv vv ts l) := fun _ _ m h =>
  ⟨kept_blk _ _ _ _ m.h1 h, m.t.below h, fun t ht => (m.tb t ht).below h, m.v.below h, fun t ht => (m.vs t ht).below h⟩
theorem rows_oneV {w : World} {q : Nat} {t : Vo} (h : w.heap[q]? = some (.cells (voTL t).toArray 35 (0, 0))) : VoIn w (.slice (some ⟨q, 0, none⟩) 1 1) [t] := by
  refine ⟨some ⟨q, 0, none⟩, 1, rfl, by simp, by simp [maxLen], .inr ⟨q, 0, rfl, (Array.getElem?_eq_some_iff.1 h).1, fun i s hi => ?_⟩⟩
  cases i with
  | zero => injection hi with hi; subst hi; have := rowT_range h; simpa using this
  | succ i => simp at hi
theorem wpList_oneVw {w : World} {ops : Array Oper} {rest : List Oper} {o : Oper} {a : Act} {Q : Exit → Act → World → Prop} (hgd : Region.wanted o (yielded ops a.tmps) = true) (x : Operand) (ho : o.op = .buildSlice 27 1 #[(0, x)]) (d : Option Tmp) (hd : o.dst = d) (t : Vo) (ht : ∃ a n c, t.sv = .slice a n c) (v : Value) (hv : v = .agg (voC t)) (hx : a.eval x = v)
    (h : wpList Tryd.prog ops Q rest (a.put d (.slice (some ⟨w.heap.size, 0, none⟩) 1 1)) (w.alloc (.cells (voTL t).toArray 35))) : wpList Tryd.prog ops Q (o :: rest) a w := by
  subst hd hv
  refine BigFrame.wpList_want hgd fun K hK => ?_
  obtain ⟨i0, hi, hz0, hz1, hz2⟩ := info_parts infoV11
  refine wp_buildSlice 27 35 1 #[(0, x)] ho (voTL t).toArray i0 _ Tryd.underlying27 hi hz0 (by rw [hz1]; decide) (by rw [hz1]; decide) ?_ (hK _ _ h)
  rw [hz1]
  simpa [hx] using vo_fill11 t ht
theorem slice_of11 {w : World} {v : Value} {xs : List Int} (h : BytesIn w v xs) : ∃ a c, v = .slice a xs.length c := by obtain ⟨a, c, e, _⟩ := h; exact ⟨a, c, e⟩
theorem sameV_one {a b : Vo} (h : vo1 a = vo1 b) : SameV [a] [b] := ⟨rfl, fun i x y h1 h2 => by
  cases i with
  | zero => injection h1 with h1; injection h2 with h2; subst h1 h2; exact h
  | succ i => simp at h1⟩
set_option maxHeartbeats 32000000 in
theorem lback_any (h : Hd) (ts : List Tb) (tv : Value) (c : Cm) (l : List Vo) (vv : Value) (w : World) (hg : ErrType w) (hh : HdBy h) (ht : TbIn w tv ts) (htb : ∀ t ∈ ts, BytesIn w t.bv t.bs) (hto : ∀ t ∈ ts, bytesOk t.bs) (hl : VoIn w vv l) (hls : ∀ t ∈ l, BytesIn w t.sv t.sign) (hlo : ∀ t ∈ l, VoBy t) (hc : CmBy c) :
    Calls Tryd.prog 3 #[.agg (bkD (hdD h.CH h.HT h.TM h.LA h.AP h.TX h.VA h.NX h.PR) tv (cmC c vv))] w fun e w' => e = .returned (.bool true) ∧ Below w.heap.size w w' := by
  obtain ⟨ta, tc, rfl, -, htm⟩ := ht.len
  obtain ⟨va, vc, rfl, -, hlm⟩ := hl.len
  have HG := Lib.hid hg
  have HSU := Lib.hid (fun w' (h : Below w.heap.size w w') => tysure_any w' (HG.out.below h))
  have HHB := Lib.hid hh
  have HTO := Lib.hid hto
  have HLO := Lib.hid hlo
  have HCB := Lib.hid hc
  have HHS := Lib.hid (hdD_size h.CH h.HT h.TM h.LA h.AP h.TX h.VA h.NX h.PR)
  have HHO := Lib.hid (hdD_one11 h.CH h.HT h.TM h.LA h.AP h.TX h.VA h.NX h.PR)
  have HEQ := Lib.hid (eqlHeader_self h.CH h.HT h.TM h.LA h.AP h.TX h.VA h.NX h.PR)
  have HEH := Lib.hid (show ∀ w, Calls Tryd.prog 11 #[.agg (hdD h.CH h.HT h.TM h.LA h.AP h.TX h.VA h.NX h.PR)] w fun e w' => ∃ vb, e = .returned vb ∧ BytesIn w' vb (hdL h.CH h.HT h.TM h.LA h.AP h.TX h.VA h.NX h.PR) ∧ Below w.heap.size w w' from fun w => eheader_any h.CH h.HT h.TM h.LA h.AP h.TX h.VA h.NX h.PR w hh.f.ht hh.f.tm hh.f.pr (by have := hh.f.n; omega))
  have HDH := Lib.hid (show h.CH.size ≤ 64 → ∀ vb w, BytesIn w vb (hdL h.CH h.HT h.TM h.LA h.AP h.TX h.VA h.NX h.PR) → Calls Tryd.prog 10 #[vb] w fun e w' => e = .returned (.tuple #[.agg (hdD h.CH h.HT h.TM h.LA h.AP h.TX h.VA h.NX h.PR), .nilIface]) ∧ Below w.heap.size w w' from fun hn vb w hy => dheader_back hh hn vb w hy)
  have HEB := Lib.hid (show h.CH.size ≤ 64 → ts.length ≤ 64 → (∀ t ∈ ts, t.bs.length ≤ 65536) → l.length ≤ 32 → (∀ t ∈ l, t.sign.length ≤ 65536) → ∀ w, TbIn w (.slice ta ts.length tc) ts → (∀ t ∈ ts, BytesIn w t.bv t.bs) → VoIn w (.slice va l.length vc) l → (∀ t ∈ l, BytesIn w t.sv t.sign) → Calls Tryd.prog 9 #[.agg (bkD (hdD h.CH h.HT h.TM h.LA h.AP h.TX h.VA h.NX h.PR) (.slice ta ts.length tc) (cmC c (.slice va l.length vc)))] w fun e w' => ∃ vb, e = .returned vb ∧ BytesIn w' vb (bkL h ts c l) ∧ Below w.heap.size w w' from
    fun h1 h2 h3 h4 h5 w a1 a2 a3 a4 => eblock_any h ts _ c l _ w hh.f a1 a2 a3 a4 (fun t m => (hlo t m).f) hc.f (by have := bkL_len hh.f h1 h2 h3 hc.f h4 (fun t m => ⟨(hlo t m).f, h5 t m⟩); omega))
  have HDB := Lib.hid (show h.CH.size ≤ 64 → ts.length ≤ 64 → (∀ t ∈ ts, t.bs.length ≤ 65536) → l.length ≤ 32 → (∀ t ∈ l, t.sign.length ≤ 65536) → ∀ vb w, BytesIn w vb (bkL h ts c l) → Calls Tryd.prog 8 #[vb] w fun e w' => ∃ (tv2 : Value) (ts2 : List Tb) (vv2 : Value) (l2 : List Vo), e = .returned (.tuple #[.agg (bkD (hdD h.CH h.HT h.TM h.LA h.AP h.TX h.VA h.NX h.PR) tv2 (cmC c vv2)), .nilIface]) ∧ (TbIn w' tv2 ts2 ∧ (∀ t ∈ ts2, BytesIn w' t.bv t.bs)) ∧ (VoIn w' vv2 l2 ∧ (∀ t ∈ l2, BytesIn w' t.sv t.sign)) ∧ SameT ts2 ts ∧ SameV l2 l ∧ (∀ t ∈ l2, VoFl t ∧ (vo1 t).length + 400 ≤ 140737488355328) ∧ Below w.heap.size w w' from
    fun h1 h2 h3 h4 h5 vb w hy => dblock_back hh h1 h2 (fun t m => ⟨h3 t m, hto t m⟩) hc h4 (fun t m => ⟨hlo t m, h5 t m⟩) vb w hy)
  obtain ⟨HC, hHC⟩ : ∃ x, x = hdD h.CH h.HT h.TM h.LA h.AP h.TX h.VA h.NX h.PR := ⟨_, rfl⟩
  have HHC := Lib.hid (show ∃ cs, HC = #[.string h.CH] ++ cs from ⟨_, hHC⟩)
  rw [← hHC] at HHS HHO HEQ HEH HDH HEB HDB ⊢
  obtain ⟨LH, hLH⟩ : ∃ x, x = hdL h.CH h.HT h.TM h.LA h.AP h.TX h.VA h.NX h.PR := ⟨_, rfl⟩
  rw [← hLH] at HEH HDH
  obtain ⟨LB, hLB⟩ : ∃ x, x = bkL h ts c l := ⟨_, rfl⟩
  rw [← hLB] at HEB HDB
  obtain ⟨CH, hCH⟩ : ∃ x, x = h.CH := ⟨_, rfl⟩
  rw [← hCH] at HHC HDH HEB HDB
  obtain ⟨CC, hCC⟩ : ∃ x, x = cmC c (.slice va l.length vc) := ⟨_, rfl⟩
  have HCC := Lib.hid hCC
  have HCS := Lib.hid ((congrArg Array.size hCC).trans (cmC_size _ _))
  rw [← hCC] at HEB ⊢
  obtain ⟨nt, hnt⟩ : ∃ n, n = ts.length := ⟨_, rfl⟩
  obtain ⟨nl, hnl⟩ : ∃ n, n = l.length := ⟨_, rfl⟩
  have HNT := Lib.hid hnt
  have HNL := Lib.hid hnl
  have hb1 := below_alloc w (.cells (bkD HC (.slice ta ts.length tc) CC) 31)
  have M := Lib.hid (show Kp w (w.alloc (.cells (bkD HC (.slice ta ts.length tc) CC) 31)) (BbX w.heap.size HC CC (.slice ta ts.length tc) (.slice va l.length vc) ts l) from
    ⟨hb1, ⟨heap_alloc_new _ _, ht.below hb1, fun t m => (htb t m).below hb1, hl.below hb1, fun t m => (hls t m).below hb1⟩, kept_bbx _ _ _ _ _ _ _⟩)
  rw [← hnt, ← hnl] at M HEB HDB
  rw [← hnl] at HCC hlm
  rw [← hnt] at htm ⊢
  have hntI : (nt : Int) ≤ 9223372036854775807 := by unfold maxLen at htm; omega
  have hnlI : (nl : Int) ≤ 9223372036854775807 := by unfold maxLen at hlm; omega
  clear hg hh ht htb hto hl hls hlo hc hHC hLH hLB hCH hCC hnt hnl hb1 htm hlm
  have HK1 := Lib.hid (show ∀ (W : World) (g : Nat) tv (C : Array Value), W.heap[g]? = some (.cells (bkD HC tv C) 31 (0, 0)) → W.cell? ⟨g, 0, none⟩ = some (.string CH) ∧ W.cell? ⟨g, 164, none⟩ = some tv ∧ W.rangeAt g 0 HC.toList ∧ W.rangeAt g 165 C.toList from fun W g tv C hW => by
    refine ⟨?_, bk_t hW HHS.out, bk_h hW HHS.out, bk_c hW HHS.out⟩
    obtain ⟨cs, hcs⟩ := HHC.out
    have := bk_h hW HHS.out 0 (.string CH) (by rw [hcs]; simp)
    exact this)
  have HK2 := Lib.hid (show ∀ (W : World) (g : Nat) vx, W.rangeAt g 165 (cmC c vx).toList → W.cell? ⟨g, 199, none⟩ = some vx from fun W g vx hW => by
    have := hW 34 vx (by rw [Array.getElem?_toList]; unfold cmC; rw [Array.getElem?_append_right (by simp [rowOf_size])]; simp [rowOf_size])
    exact this)
  go_enter Tryd.func3, Tryd.ntmps3
  go_upto_region 1 with (fail)
  obtain ⟨g1, hg1⟩ : ∃ g, g = w.heap.size := ⟨_, rfl⟩
  rw [← hg1] at M ⊢
  clear hg1
  generalize w.alloc (.cells (bkD HC (.slice ta nt tc) CC) 31) = w1 at *
  have c0 := (HK1.out _ _ _ _ M.out.x.h1).1
  have c164 := (HK1.out _ _ _ _ M.out.x.h1).2.1
  have c199 : w1.cell? ⟨g1, 199, none⟩ = some (.slice va nl vc) := by
    have := (HK1.out _ _ _ _ M.out.x.h1).2.2.2
    rw [HCC.out] at this
    exact HK2.out _ _ _ this
  by_cases k1 : 64 < nt
  · have k1I : (64 : Int) < (nt : Int) := by omega
    clear k1
    go_wp2_with (go_at_call 4; (with_reducible refine (HSU.out _ M.out.below).mono ?_); rintro e w4 ⟨rfl, hb⟩; replace M := Lib.hid (M.out.call hb); clear hb)
    go_ret
    exact ⟨rfl, M.out.below⟩
  have k1I : ¬ (64 : Int) < (nt : Int) := by omega
  have HT64 := Lib.hid (show ts.length ≤ 64 from by rw [← HNT.out]; omega)
  clear k1
  by_cases k2 : 32 < nl
  · have k2I : (32 : Int) < (nl : Int) := by omega
    clear k2
    go_wp2_with (go_at_call 4; (with_reducible refine (HSU.out _ M.out.below).mono ?_); rintro e w4 ⟨rfl, hb⟩; replace M := Lib.hid (M.out.call hb); clear hb)
    go_ret
    exact ⟨rfl, M.out.below⟩
  have k2I : ¬ (32 : Int) < (nl : Int) := by omega
  have HL32 := Lib.hid (show l.length ≤ 32 from by rw [← HNL.out]; omega)
  clear k2
  obtain ⟨nc, hnc⟩ : ∃ n : Nat, n = CH.size := ⟨_, rfl⟩
  by_cases k3 : 64 < CH.size
  · have k3I : (64 : Int) < (CH.size : Int) := by omega
    clear k3
    go_wp2_with (go_at_call 4; (with_reducible refine (HSU.out _ M.out.below).mono ?_); rintro e w4 ⟨rfl, hb⟩; replace M := Lib.hid (M.out.call hb); clear hb)
    go_ret
    exact ⟨rfl, M.out.below⟩
  have k3I : ¬ (64 : Int) < (CH.size : Int) := by omega
  have HC64 := Lib.hid (show CH.size ≤ 64 from by omega)
  clear k3 hnc
  go_upto_region 3 with (fail)
  clear k1I k2I k3I c0 c199
  have HT0 := Lib.hid (show ∀ t ∈ ts.take 0, t.bs.length ≤ 65536 from fun t m => by simp at m)
  go_wp2_with (fail)
  go_loopw [3] (fun x wr => ∃ k : Nat, k ≤ nt ∧ x = .int .i64 (k : Int) ∧ wr = w1 ∧ Hid (∀ t ∈ ts.take k, t.bs.length ≤ 65536)) (fun x _ => nt - (intOf x).toNat)
  case atStart => exact ⟨0, Nat.zero_le _, rfl, rfl, HT0⟩
  case round =>
    clear HT0
    obtain ⟨k, hkn, rfl, rfl, HT⟩ := hrel
    by_cases hlt : k < nt
    · have hltI : (k : Int) < (nt : Int) := by omega
      obtain ⟨x, hx⟩ : ∃ x, ts[k]? = some x := ⟨ts[k]'(by have := HNT.out; omega), List.getElem?_eq_getElem _⟩
      have hv := M.out.x.t
      rw [HNT.out] at hv
      obtain ⟨ab, ao, rfl, hab, hra⟩ := hv.at hx
      have hc := hra 0 _ rfl
      rw [Nat.mul_one] at hc
      replace hc : wr.cell? ⟨ab, ao + k, none⟩ = some x.bv := hc
      obtain ⟨xa, xc, hxv⟩ := slice_of11 (M.out.x.tb x (List.mem_of_getElem? hx))
      rw [hxv] at hc
      obtain ⟨xl, hxl⟩ : ∃ n, n = x.bs.length := ⟨_, rfl⟩
      rw [← hxl] at hc
      by_cases kx : 65536 < xl
      · have kxI : (65536 : Int) < (xl : Int) := by omega
        clear kx hx hv hab hra hxv hxl
        go_wp2_with (go_at_call 4; (with_reducible refine (HSU.out _ M.out.below).mono ?_); rintro e w4 ⟨rfl, hb⟩; replace M := Lib.hid (M.out.call hb); clear hb)
        go_ret
        exact ⟨rfl, M.out.below⟩
      · have kxI : ¬ (65536 : Int) < (xl : Int) := by omega
        have HTN := Lib.hid (show ∀ t ∈ ts.take (k + 1), t.bs.length ≤ 65536 from fun t m => by
          rw [List.take_add_one, hx] at m
          rcases List.mem_append.1 m with m | m
          · exact HT.out t m
          · have e : t = x := by simpa using m
            rw [e]; omega)
        clear kx hx hv hab hra hxv hxl
        go_wp2_with (fail)
        go_roundw
        case rel => exact ⟨k + 1, by omega, by go_num, trivial, HTN⟩
        case measure => simp [intOf]; omega
    · obtain rfl : k = nt := by omega
      have HTA := Lib.hid (show ∀ t ∈ ts, t.bs.length ≤ 65536 from fun t m => HT.out t (by rw [HNT.out, List.take_length]; exact m))
      clear HT
      have HV0 := Lib.hid (show ∀ t ∈ l.take 0, t.sign.length ≤ 65536 from fun t m => by simp at m)
      go_wp2_with (fail)
      clear c164
      go_loopw [4] (fun x wr2 => ∃ j : Nat, j ≤ nl ∧ x = .int .i64 (j : Int) ∧ Hid (Kp w wr2 (BbX g1 HC CC (.slice ta k tc) (.slice va nl vc) ts l)) ∧ Hid (∀ t ∈ l.take j, t.sign.length ≤ 65536)) (fun x _ => nl - (intOf x).toNat)
      case atStart => exact ⟨0, Nat.zero_le _, rfl, M, HV0⟩
      case round =>
        clear HV0 M
        obtain ⟨j, hjn, rfl, M, HV⟩ := hrel
        have c199 : ∀ W : World, BbX g1 HC CC (.slice ta k tc) (.slice va nl vc) ts l W → W.cell? ⟨g1, 199, none⟩ = some (.slice va nl vc) := fun W m => by
          have := (HK1.out _ _ _ _ m.h1).2.2.2
          rw [HCC.out] at this
          exact HK2.out _ _ _ this
        have HC199 := Lib.hid c199
        clear c199
        have d199 := HC199.out _ M.out.x
        by_cases hlj : j < nl
        · have hljI : (j : Int) < (nl : Int) := by omega
          obtain ⟨x, hx⟩ : ∃ x, l[j]? = some x := ⟨l[j]'(by have := HNL.out; omega), List.getElem?_eq_getElem _⟩
          have hv := M.out.x.v
          rw [HNL.out] at hv
          obtain ⟨ab, ao, rfl, hab, hra⟩ := hv.at hx
          have HRA := Lib.hid hra
          have HBX := Lib.hid (M.out.x.vs x (List.mem_of_getElem? hx))
          have HBY := Lib.hid (HLO.out x (List.mem_of_getElem? hx))
          obtain ⟨xa, xc, hxv⟩ := slice_of11 HBX.out
          obtain ⟨xl, hxl⟩ : ∃ n, n = x.sign.length := ⟨_, rfl⟩
          rw [← hxl] at hxv
          have HXV := Lib.hid hxv
          have HXL := Lib.hid hxl
          have HVN := Lib.hid (show xl ≤ 65536 → ∀ t ∈ l.take (j + 1), t.sign.length ≤ 65536 from fun hle t m => by
            rw [List.take_add_one, hx] at m
            rcases List.mem_append.1 m with m | m
            · exact HV.out t m
            · have e : t = x := by simpa using m
              rw [e]; omega)
          have HOX := Lib.hid (voC_one x ⟨_, _, _, hxv⟩)
          have HZX := Lib.hid (voC_size x)
          have HC5 := Lib.hid (show ∀ (W : World) (g : Nat), W.heap[g]? = some (.cells (voC x) 35 (0, 0)) → W.cell? ⟨g, 36, none⟩ = some (.slice xa xl xc) from fun W g hW => by
            have := (vo_cells hW).2.2.2.2.2
            rw [hxv] at this
            exact this)
          have HBU := Lib.hid (show ∃ a n c, x.sv = .slice a n c from ⟨_, _, _, hxv⟩)
          obtain ⟨CX, hCX⟩ : ∃ z, z = voC x := ⟨_, rfl⟩
          have HCX := Lib.hid hCX
          rw [← hCX] at HRA HOX HZX HC5
          clear hx hv hab hra hxv hxl hCX
          go_upto_region 12 with (first
            | (refine wpList_load_rowT (by rfl) 35 (.tmp 58) rfl ab (ao + j * 37) rfl CX _ HRA.out Tryd.underlying35 rfl (by rw [HZX.out]; kernel_rfl) ?_)
            | (refine wpList_store_row rfl 35 (.tmp 5) (.tmp 59) rfl wr.heap.size CX rfl rfl 35 _ (heap_alloc_new _ _) (by rw [HZX.out]; kernel_rfl) (by rw [HZX.out]; rfl) HOX.out ?_; rw [World.setRow_alloc_new]))
          have HQ5 := Lib.hid (heap_alloc_new wr (.cells CX 35))
          have hb5 := below_alloc wr (.cells CX 35)
          replace M := Lib.hid (M.out.call hb5)
          replace HBX := Lib.hid (HBX.out.below hb5)
          obtain ⟨q5, hq5⟩ : ∃ z, z = wr.heap.size := ⟨_, rfl⟩
          rw [← hq5] at HQ5 ⊢
          clear hq5 hb5 d199 HRA
          generalize wr.alloc (.cells CX 35) = w5 at *
          have c36 := HC5.out _ _ HQ5.out
          by_cases kx : 65536 < xl
          · have kxI : (65536 : Int) < (xl : Int) := by omega
            clear kx
            go_wp2_with (go_at_call 4; (with_reducible refine (HSU.out _ M.out.below).mono ?_); rintro e w6 ⟨rfl, hb⟩; replace M := Lib.hid (M.out.call hb); clear hb)
            go_ret
            exact ⟨rfl, M.out.below⟩
          · have kxI : ¬ (65536 : Int) < (xl : Int) := by omega
            have HVX := Lib.hid (HVN.out (by omega))
            have HEV := Lib.hid (show ∀ W, BytesIn W x.sv x.sign → Calls Tryd.prog 6 #[.agg CX] W fun e w' => ∃ vb, e = .returned vb ∧ BytesIn w' vb (vo1 x) ∧ Below W.heap.size W w' from fun W hb => by
              rw [HCX.out]
              exact evote_any x W hb HBY.out.f (by have := vo1_len HBY.out.f (by rw [← HXL.out]; omega); omega))
            have HDV := Lib.hid (fun vb W hy => dvote_back HBY.out (by rw [← HXL.out]; omega) vb W hy)
            have HLX := Lib.hid (show (vo1 x).length + 400 ≤ 140737488355328 from by have := vo1_len HBY.out.f (by rw [← HXL.out]; omega); omega)
            clear kx HVN
            go_upto_region 15 with (first
              | (refine wpList_load_rowT (by rfl) 35 (.tmp 5) rfl q5 0 rfl CX _ (rowT_range HQ5.out) Tryd.underlying35 rfl (by rw [HZX.out]; kernel_rfl) ?_)
              | (go_at_call 6; (with_reducible refine (HEV.out _ HBX.out).mono ?_); rintro e w6 ⟨vb, rfl, hby, hb⟩; have HBV := Lib.hid hby; replace M := Lib.hid (M.out.call hb); replace HBX := Lib.hid (HBX.out.below hb); replace HQ5 := Lib.hid ((hb.block q5 (Array.getElem?_eq_some_iff.1 HQ5.out).1).trans HQ5.out); clear hby hb)
              | (go_at_call 5; (with_reducible refine (HDV.out _ _ HBV.out).mono ?_); rintro e w7 ⟨T, rfl, hTb, hT1, hTf, hTl, hb⟩; have HTB := Lib.hid hTb; have HT1 := Lib.hid hT1; have HTF := Lib.hid hTf; have HTL := Lib.hid hTl; have HTS := Lib.hid (show ∃ a n c, T.sv = .slice a n c from by obtain ⟨a, c, e⟩ := slice_of11 hTb; exact ⟨_, _, _, e⟩); replace M := Lib.hid (M.out.call hb); replace HBX := Lib.hid (HBX.out.below hb); replace HQ5 := Lib.hid ((hb.block q5 (Array.getElem?_eq_some_iff.1 HQ5.out).1).trans HQ5.out); obtain ⟨CT, hCT⟩ : ∃ z, z = voC T := ⟨_, rfl⟩; have HCT := Lib.hid hCT; have HZT := Lib.hid ((congrArg Array.size hCT).trans (voC_size T)); have HOT := Lib.hid (show CT.all (·.oneCell') = true from by rw [hCT]; exact voC_one T HTS.out); rw [← hCT]; clear hTb hT1 hTf hTl hb hCT)
              | (refine wpList_store_row rfl 35 (.tmp 6) (.tmp 69) rfl w7.heap.size CT rfl rfl 35 _ (heap_alloc_new _ _) (by rw [HZT.out]; kernel_rfl) (by rw [HZT.out]; rfl) HOT.out ?_; rw [World.setRow_alloc_new]))
            have HQ6 := Lib.hid (heap_alloc_new w7 (.cells CT 35))
            have hb6 := below_alloc w7 (.cells CT 35)
            replace M := Lib.hid (M.out.call hb6)
            replace HBX := Lib.hid (HBX.out.below hb6)
            replace HTB := Lib.hid (HTB.out.below hb6)
            replace HQ5 := Lib.hid ((hb6.block q5 (Array.getElem?_eq_some_iff.1 HQ5.out).1).trans HQ5.out)
            obtain ⟨q6, hq6⟩ : ∃ z, z = w7.heap.size := ⟨_, rfl⟩
            rw [← hq6] at HQ6 ⊢
            clear hq6 hb6
            generalize w7.alloc (.cells CT 35) = w8 at *
            go_wp2_with (first
              | (refine wpList_load_rowT (by rfl) 35 (.tmp 6) rfl q6 0 rfl CT _ (rowT_range HQ6.out) Tryd.underlying35 rfl (by rw [HZT.out]; kernel_rfl) ?_)
              | (refine wpList_load_rowT (by rfl) 35 (.tmp 5) rfl q5 0 rfl CX _ (rowT_range HQ5x.out) Tryd.underlying35 rfl (by rw [HZX.out]; kernel_rfl) ?_)
              | (refine wpList_oneVw (by rfl) (.tmp 74) rfl (some 75) rfl T HTS.out (.agg CT) (by rw [HCT.out]) rfl ?_; have HA1 := Lib.hid (heap_alloc_new w8 (.cells (voTL T).toArray 35)); have hb9 := below_alloc w8 (.cells (voTL T).toArray 35); replace M := Lib.hid (M.out.call hb9); replace HBX := Lib.hid (HBX.out.below hb9); replace HTB := Lib.hid (HTB.out.below hb9); have HQ5x := Lib.hid ((hb9.block q5 (Array.getElem?_eq_some_iff.1 HQ5.out).1).trans HQ5.out); obtain ⟨qa, hqa⟩ : ∃ z, z = w8.heap.size := ⟨_, rfl⟩; rw [← hqa] at HA1 ⊢; clear hqa hb9; generalize w8.alloc (.cells (voTL T).toArray 35) = w9 at *)
              | (refine wpList_oneVw (by rfl) (.tmp 76) rfl (some 77) rfl x HBU.out (.agg CX) (by rw [HCX.out]) rfl ?_; have HA2 := Lib.hid (heap_alloc_new w9 (.cells (voTL x).toArray 35)); have hb9 := below_alloc w9 (.cells (voTL x).toArray 35); replace M := Lib.hid (M.out.call hb9); replace HBX := Lib.hid (HBX.out.below hb9); replace HTB := Lib.hid (HTB.out.below hb9); replace HA1 := Lib.hid ((hb9.block qa (Array.getElem?_eq_some_iff.1 HA1.out).1).trans HA1.out); obtain ⟨qb, hqb⟩ : ∃ z, z = w9.heap.size := ⟨_, rfl⟩; rw [← hqb] at HA2 ⊢; clear hqb hb9; generalize w9.alloc (.cells (voTL x).toArray 35) = w10 at *)
              | (go_at_call 7; (with_reducible refine (lvotes11_any (.slice (some ⟨qa, 0, none⟩) 1 1) (.slice (some ⟨qb, 0, none⟩) 1 1) [T] [x] w10 (rows_oneV HA1.out) (rows_oneV HA2.out) (fun t m => by rw [List.mem_singleton.1 m]; exact HTB.out) (fun t m => by rw [List.mem_singleton.1 m]; exact HBX.out) (fun t m => by rw [List.mem_singleton.1 m]; exact ⟨HTF.out, HTL.out⟩) (fun t m => by rw [List.mem_singleton.1 m]; exact ⟨HBY.out.f, HLX.out⟩) (sameV_one HT1.out)).mono ?_); rintro e w11 ⟨rfl, hb⟩; replace M := Lib.hid (M.out.call hb); clear hb))
            go_roundw
            case rel => exact ⟨j + 1, by omega, by go_num, M, HVX⟩
            case measure => simp [intOf]; omega
        · obtain rfl : j = nl := by omega
          have HVA := Lib.hid (show ∀ t ∈ l, t.sign.length ≤ 65536 from fun t m => HV.out t (by rw [HNL.out, List.take_length]; exact m))
          clear HV
          have HEB2 := Lib.hid (HEB.out HC64.out (by have := HT64.out; have := HNT.out; omega) HTA.out (by have := HL32.out; have := HNL.out; omega) HVA.out)
          have HDB2 := Lib.hid (HDB.out HC64.out (by have := HT64.out; have := HNT.out; omega) HTA.out (by have := HL32.out; have := HNL.out; omega) HVA.out)
          have HDH2 := Lib.hid (HDH.out HC64.out)
          have HBS := Lib.hid (bkD_size (tv := .slice ta k tc) HHS.out HCS.out)
          have HFL := Lib.hid (show ∀ t ∈ l, VoFl t ∧ (vo1 t).length + 400 ≤ 140737488355328 from fun t m => ⟨(HLO.out t m).f, by have := vo1_len (HLO.out t m).f (HVA.out t m); omega⟩)
          clear HEB HDB HDH
          go_upto_region 18 with (first
            | (refine wpList_load_rowT (by rfl) 31 (.tmp 1) rfl g1 0 rfl (bkD HC (.slice ta k tc) CC) _ (rowT_range M.out.x.h1) Tryd.underlying31 rfl (by rw [HBS.out]; kernel_rfl) ?_)
            | (go_at_call 9; (with_reducible refine (HEB2.out _ M.out.x.t M.out.x.tb M.out.x.v M.out.x.vs).mono ?_); rintro e w6 ⟨vb, rfl, hby, hb⟩; have HBV := Lib.hid hby; replace M := Lib.hid (M.out.call hb); clear hby hb)
            | (go_at_call 8; (with_reducible refine (HDB2.out _ _ HBV.out).mono ?_); rintro e w7 ⟨tv2, ts2, vv2, l2, rfl, ht2, hv2, hst, hsv, hfl, hb⟩; have HT2 := Lib.hid ht2; have HV2 := Lib.hid hv2; have HST := Lib.hid hst; have HSV := Lib.hid hsv; have HF2 := Lib.hid hfl; replace M := Lib.hid (M.out.call hb); obtain ⟨ta2, tc2, rfl, -, -⟩ := ht2.1.len; obtain ⟨va2, vc2, rfl, -, -⟩ := hv2.1.len; obtain ⟨CC2, hCC2⟩ : ∃ z, z = cmC c (.slice va2 l2.length vc2) := ⟨_, rfl⟩; have HCC2 := Lib.hid hCC2; have HCS2 := Lib.hid ((congrArg Array.size hCC2).trans (cmC_size _ _)); have HCO2 := Lib.hid (show CC2.all (·.oneCell') = true from by rw [hCC2]; exact cmC_one11 _ _ _ _); rw [← hCC2]; have HBS2 := Lib.hid (bkD_size (tv := .slice ta2 ts2.length tc2) HHS.out HCS2.out); have HBO2 := Lib.hid (bkD_one (a := ta2) (n := ts2.length) (c := tc2) HHO.out HCO2.out); clear ht2 hv2 hst hsv hfl hb hCC2)
            | (refine wpList_store_row rfl 31 (.tmp 8) (.tmp 85) rfl w7.heap.size (bkD HC (.slice ta2 ts2.length tc2) CC2) rfl rfl 31 _ (heap_alloc_new _ _) (by rw [HBS2.out]; kernel_rfl) (by rw [HBS2.out]; rfl) HBO2.out ?_; rw [World.setRow_alloc_new]))
          have HQ8 := Lib.hid (heap_alloc_new w7 (.cells (bkD HC (.slice ta2 ts2.length tc2) CC2) 31))
          have hb8 := below_alloc w7 (.cells (bkD HC (.slice ta2 ts2.length tc2) CC2) 31)
          replace M := Lib.hid ((M.out.call hb8).add (Y := fun W => (W.heap[w7.heap.size]? = some (.cells (bkD HC (.slice ta2 ts2.length tc2) CC2) 31 (0, 0))) ∧ TbIn W (.slice ta2 ts2.length tc2) ts2 ∧ (∀ t ∈ ts2, BytesIn W t.bv t.bs) ∧ VoIn W (.slice va2 l2.length vc2) l2 ∧ (∀ t ∈ l2, BytesIn W t.sv t.sign)) ⟨HQ8.out, HT2.out.1.below hb8, fun t m => (HT2.out.2 t m).below hb8, HV2.out.1.below hb8, fun t m => (HV2.out.2 t m).below hb8⟩ (fun a b m h => ⟨kept_blk _ _ _ _ m.1 h, m.2.1.below h, fun t ht => (m.2.2.1 t ht).below h, m.2.2.2.1.below h, fun t ht => (m.2.2.2.2 t ht).below h⟩))
          obtain ⟨q8, hq8⟩ : ∃ z, z = w7.heap.size := ⟨_, rfl⟩
          rw [← hq8] at M ⊢
          clear hq8 hb8 HQ8 HT2 HV2
          generalize w7.alloc (.cells (bkD HC (.slice ta2 ts2.length tc2) CC2) 31) = w8 at *
          go_upto_region 19 with (first
            | (refine wpList_load_rowT (by rfl) 25 (.tmp 88) rfl g1 0 rfl HC _ (HK1.out _ _ _ _ M.out.x.1.h1).2.2.1 Tryd.underlying25 rfl (by rw [HHS.out]; kernel_rfl) ?_)
            | (go_at_call 11; (with_reducible refine (HEH.out _).mono ?_); rintro e w9 ⟨vb, rfl, hby, hb⟩; have HBH := Lib.hid hby; replace M := Lib.hid (M.out.call hb); clear hby hb)
            | (go_at_call 10; (with_reducible refine (HDH2.out _ _ HBH.out).mono ?_); rintro e w10 ⟨rfl, hb⟩; replace M := Lib.hid (M.out.call hb); clear hb)
            | (refine wpList_store_row rfl 25 (.tmp 10) (.tmp 92) rfl w10.heap.size HC rfl rfl 25 _ (heap_alloc_new _ _) (by rw [HHS.out]; kernel_rfl) (by rw [HHS.out]; rfl) HHO.out ?_; rw [World.setRow_alloc_new]))
          have HQ10 := Lib.hid (heap_alloc_new w10 (.cells HC 25))
          have hb10 := below_alloc w10 (.cells HC 25)
          replace M := Lib.hid (M.out.call hb10)
          obtain ⟨q10, hq10⟩ : ∃ z, z = w10.heap.size := ⟨_, rfl⟩
          rw [← hq10] at HQ10 ⊢
          clear hq10 hb10
          generalize w10.alloc (.cells HC 25) = w11 at *
          have e164 := (HK1.out _ _ _ _ M.out.x.1.h1).2.1
          have f164 := (HK1.out _ _ _ _ M.out.x.2.1).2.1
          have HLL := Lib.hid (llists11_any (.slice ta2 ts2.length tc2) (.slice ta k tc) ts2 ts w11 M.out.x.2.2.1 M.out.x.1.t M.out.x.2.2.2.1 M.out.x.1.tb HST.out)
          have HLC := Lib.hid (show ∀ W, VoIn W (.slice va2 l2.length vc2) l2 → VoIn W (.slice va j vc) l → (∀ t ∈ l2, BytesIn W t.sv t.sign) → (∀ t ∈ l, BytesIn W t.sv t.sign) → Calls Tryd.prog 13 #[.agg CC2, .agg CC] W fun e w' => e = .returned (.bool true) ∧ Below W.heap.size W w' from fun W a1 a2 a3 a4 => by
            rw [HCC2.out, HCC.out]
            exact lcommit11_any c _ _ l2 l W a1 a2 a3 a4 HF2.out HFL.out HSV.out)
          go_wp2_with (first
            | (refine wpList_load_rowT (by rfl) 25 (.tmp 10) rfl q10 0 rfl HC _ (rowT_range HQ10.out) Tryd.underlying25 rfl (by rw [HHS.out]; kernel_rfl) ?_)
            | (refine wpList_load_rowT (by rfl) 25 (.tmp 102) rfl g1 0 rfl HC _ (HK1.out _ _ _ _ M.out.x.1.h1).2.2.1 Tryd.underlying25 rfl (by rw [HHS.out]; kernel_rfl) ?_)
            | (refine wpList_load_rowT (by rfl) 25 (.tmp 107) rfl q8 0 rfl HC _ (HK1.out _ _ _ _ M.out.x.2.1).2.2.1 Tryd.underlying25 rfl (by rw [HHS.out]; kernel_rfl) ?_)
            | (refine wpList_load_rowT (by rfl) 25 (.tmp 109) rfl g1 0 rfl HC _ (HK1.out _ _ _ _ M.out.x.1.h1).2.2.1 Tryd.underlying25 rfl (by rw [HHS.out]; kernel_rfl) ?_)
            | (refine wpList_eqH (by rfl) (.tmp 101) (.tmp 103) rfl HC HEQ.out rfl rfl ?_)
            | (refine wpList_eqH (by rfl) (.tmp 108) (.tmp 110) rfl HC HEQ.out rfl rfl ?_)
            | (go_at_call 12; (with_reducible refine HLL.out.mono ?_); rintro e w12 ⟨rfl, hb⟩; replace M := Lib.hid (M.out.call hb); clear hb)
            | (refine wpList_load_rowT (by rfl) 29 (.tmp 121) rfl q8 165 rfl CC2 _ (HK1.out _ _ _ _ M.out.x.2.1).2.2.2 Tryd.underlying29 rfl (by rw [HCS2.out]; kernel_rfl) ?_)
            | (refine wpList_load_rowT (by rfl) 29 (.tmp 123) rfl g1 165 rfl CC _ (HK1.out _ _ _ _ M.out.x.1.h1).2.2.2 Tryd.underlying29 rfl (by rw [HCS.out]; kernel_rfl) ?_)
            | (go_at_call 13; (with_reducible refine (HLC.out _ M.out.x.2.2.2.2.1 M.out.x.1.v M.out.x.2.2.2.2.2 M.out.x.1.vs).mono ?_); rintro e w13 ⟨rfl, hb⟩; replace M := Lib.hid (M.out.call hb); clear hb)
            | (go_at_call 4; (with_reducible refine (HSU.out _ M.out.below).mono ?_); rintro e w14 ⟨rfl, hb⟩; replace M := Lib.hid (M.out.call hb); clear hb))
          go_ret
          exact ⟨rfl, M.out.below⟩
end Go.Proofs.YtjnpcmfpiejmjaaDoor

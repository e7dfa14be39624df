/- ShaSums: the walk. -/
import Derived.Test.YtbppainejdphpaaDoorShRPa
import Derived.Test.YtbppainejdphpaaDoorShSure
import Derived.Test.YtbppainejdphpaaDoorShNil
import Derived.Test.YtbppainejdphpaaDoorShClone
import Derived.Test.YtbppainejdphpaaDoorShNode
import Derived.Test.YtbppainejdphpaaDoorShRefS
import Derived.Test.YtbppainejdphpaaDoorTwin
import Derived.Test.YtbppainejdphpaaDoorMin
import Derived.Test.YtbppainejdphpaaDoorInts
import Derived.Test.YtbppainejdphpaaDoorEq32
import Derived.Test.YtbppainejdphpaaDoorYld
namespace Go.Proofs.YtbppainejdphpaaDoor
open Go.RowKit
set_option maxRecDepth 100000
theorem mod90 (n : Int) : ∃ k : Nat, k < 90 ∧ wrap64 ((IntKind.u64.wrap n).tmod 90) = (k : Int) := by
  have h0 : 0 ≤ IntKind.u64.wrap n := by
    unfold IntKind.wrap
    simp [IntKind.bits, IntKind.signed]
    omega
  have h1 : (IntKind.u64.wrap n).tmod 90 = IntKind.u64.wrap n % 90 := Int.tmod_eq_emod_of_nonneg h0
  have h2 := Int.emod_nonneg (IntKind.u64.wrap n) (show (90 : Int) ≠ 0 by omega)
  have h3 := Int.emod_lt_of_pos (IntKind.u64.wrap n) (show (0 : Int) < 90 by omega)
  refine ⟨(IntKind.u64.wrap n % 90).toNat, by omega, ?_⟩
  rw [h1, Int.toNat_of_nonneg h2]
  unfold wrap64; omega
theorem owns_at {w : World} {base g : Nat} {v : Value} {xs : List Int} (h : w.ownsRow base 5 1 v xs.length (byteVals xs)) (hl : xs.length ≤ maxLen) (hg : g < base) : BytesAt w g v xs := by
  rcases h.2 with ⟨rfl, h0⟩ | ⟨q, c, cur, rfl, hb, hq, hc, hm, hs, ht⟩
  · obtain rfl := List.eq_nil_of_length_eq_zero h0
    exact ⟨none, 0, rfl, Nat.le_refl _, hl, .inl rfl⟩
  · refine ⟨_, c, rfl, hc, hl, .inr ⟨q, 0, rfl, by omega, fun i x hi => ?_⟩⟩
    have := h.cells (g := q) rfl i (.int .u8 x) (by simp [byteVals, hi])
    rw [Addr.add_mid] at this
    exact this
/-- what lies in memory: the wanted sum, a Hash -/
structure SuM (w w' : World) (g7 : Nat) (W : Nat → Int) (g : Nat) (h : HS) : Prop where
  below : Below w.heap.size w w'
  want : RowAt w' g7 .u8 32 25 W
  hash : HashAt w' g h.s h.b h.n
  l7 : w.heap.size ≤ g7
  lg : w.heap.size ≤ g
  ne : g7 ≠ g
theorem SuM.call {w w' w2 : World} {g7 g : Nat} {W : Nat → Int} {h : HS} (m : SuM w w' g7 W g h) (hb : Below w'.heap.size w' w2) : SuM w w2 g7 W g h :=
  ⟨m.below.trans (hb.mono m.below.size), m.want.below hb m.want.lt, m.hash.below hb m.hash.lt, m.l7, m.lg, m.ne⟩
theorem SuM.wrote {w w' w2 : World} {g7 g : Nat} {W : Nat → Int} {h h' : HS} (m : SuM w w' g7 W g h) (hh : HashAt w2 g h'.s h'.b h'.n) (ho : Only g w' w2) : SuM w w2 g7 W g h' :=
  ⟨m.below.trans (ho.below m.lg m.below.size), (ho.block _ m.want.lt m.ne).trans m.want, hh, m.l7, m.lg, m.ne⟩
theorem SuM.other {w w' w2 : World} {g7 g q : Nat} {W : Nat → Int} {h : HS} (m : SuM w w' g7 W g h) (ho : Only q w' w2) (hq : w.heap.size ≤ q) (h1 : g7 ≠ q) (h2 : g ≠ q) : SuM w w2 g7 W g h :=
  ⟨m.below.trans (ho.below hq m.below.size), (ho.block _ m.want.lt h1).trans m.want, (ho.block _ m.hash.lt h2).trans m.hash, m.l7, m.lg, m.ne⟩
theorem other_at (w : World) (g : Nat) (hg : g < w.heap.size) : BytesAt (w.alloc (.cells #[.int .u8 111, .int .u8 116, .int .u8 104, .int .u8 101, .int .u8 114] 5 (5, 6))) g (.slice (some ⟨w.heap.size, 0, none⟩) 5 5) [111, 116, 104, 101, 114] := by
  refine ⟨_, _, rfl, by simp, by simp [maxLen], .inr ⟨_, _, rfl, by omega, fun i y hi => ?_⟩⟩
  rw [Nat.zero_add, cell_of_row _ _ _ _ _ _ (heap_alloc_new w _)]
  match i, hi with
  | 0, hi => cases hi; rfl
  | 1, hi => cases hi; rfl
  | 2, hi => cases hi; rfl
  | 3, hi => cases hi; rfl
  | 4, hi => cases hi; rfl
structure SuE (w w' : World) (g7 : Nat) (W : Nat → Int) (g : Nat) (h : HS) (g13 g15 : Nat) (X : Nat → Int) : Prop where
  below : Below w.heap.size w w'
  r7 : RowAt w' g7 .u8 32 25 W
  hash : HashAt w' g h.s h.b h.n
  r13 : RowAt w' g13 .u8 32 25 X
  r15 : RowAt w' g15 .u8 32 25 X
theorem SuE.call {w w' w2 : World} {g7 g g13 g15 : Nat} {W X : Nat → Int} {h : HS} (m : SuE w w' g7 W g h g13 g15 X) (hb : Below w'.heap.size w' w2) : SuE w w2 g7 W g h g13 g15 X :=
  ⟨m.below.trans (hb.mono m.below.size), m.r7.below hb m.r7.lt, m.hash.below hb m.hash.lt, m.r13.below hb m.r13.lt, m.r15.below hb m.r15.lt⟩
theorem cutJoin (xs : List Int) (p q : Nat) : xs.take p ++ (xs.take (p + q)).drop p = xs.take (p + q) := by
  have h := List.take_append_drop p (xs.take (p + q))
  rw [List.take_take, Nat.min_eq_left (by omega)] at h
  exact h
theorem bts {h : HS} (xs : List Int) (hb : 0 ≤ h.n ∧ h.n < 18446744073709551616) : 0 ≤ (putF h xs).n ∧ (putF h xs).n < 18446744073709551616 := putF_bounds h hb.1 hb.2 xs
set_option maxHeartbeats 4000000 in
theorem ssums_any (v vc : Value) (s : ByteArray) (xs cs : List Int) (w : World) (he : Env w) (het : ErrType w) (hx : BytesIn w v xs) (hc : IntsIn w vc cs) (hs : s.size ≤ maxLen) (hlx : xs.length ≤ 140737488351232) :
    Calls Tryd.prog 3 #[v, vc, .string s] w fun e w' => e = .returned (.bool true) ∧ Below w.heap.size w w' := by
  have HE := Lib.hid he
  have HET := Lib.hid het
  have HX := Lib.hid hx
  have HC := Lib.hid hc
  have HS := Lib.hid hs
  have HL := Lib.hid (show xs.length + 80 ≤ 140737488355328 by omega)
  have HL2 := Lib.hid (show xs.length ≤ 140737488355328 by omega)
  have HLI : (xs.length : Int) ≤ 9223372036854775807 := by omega
  obtain ⟨a, cap, hv, hcap, hml, -⟩ := hx
  obtain ⟨ac, capc, hvc, hcapc, hmlc, HCC⟩ := hc
  replace HCC := Lib.hid HCC
  subst hv hvc
  obtain ⟨X, hX⟩ : ∃ X, X = (parR (numsOf s)).1 := ⟨_, rfl⟩
  obtain ⟨c, hcc⟩ : ∃ c, c = (parR (numsOf s)).2 := ⟨_, rfl⟩
  have HXR := Lib.hid hX.symm
  have HCR := Lib.hid hcc.symm
  have HG := Lib.hid he.lt
  clear he het hs hlx hX hcc
  have kc := fun (w : World) (C : Array Value) (n c : Nat) => Lib.run_convert_bytes_const (P := Tryd.prog) w 22 5 C n c Tryd.underlying22 Tryd.underlying5
  go_enter Tryd.func3, Tryd.ntmps3
  go_upto_region 2 with (first
    | (go_at_call 5; (with_reducible refine (rsum_any _ xs _ HX.out HL.out).mono ?_); rintro e w1 ⟨rfl, HB⟩; replace HB := Lib.hid HB)
    | (refine wpList_store_row rfl 25 (.tmp 7) (.tmp 19) rfl w1.heap.size (rowOf .u8 32 (sumF xs)) rfl rfl 25 _ (heap_alloc_new _ _) (by rw [rowOf_size]; kernel_rfl) (by rw [rowOf_size]; rfl) (rowOf_one _ _ _) ?_; rw [World.setRow_alloc_new]))
  have HR7 := Lib.hid (RowAt.new w1 .u8 32 25 (sumF xs))
  have HB1 := HB
  replace HB := Lib.hid (HB.out.trans ((below_alloc w1 (.cells (rowOf .u8 32 (sumF xs)) 25)).mono HB.out.size))
  have HS7 := Lib.hid HB.out.size
  obtain ⟨g7, hg7⟩ : ∃ g7, g7 = w1.heap.size := ⟨_, rfl⟩
  have HG7 := Lib.hid (show w.heap.size ≤ g7 by
    have h1 := HB1.out.size
    omega)
  rw [← hg7] at HR7 ⊢
  have HLT7 := Lib.hid HR7.out.lt
  generalize w1.alloc (.cells (rowOf .u8 32 (sumF xs)) 25) = w2 at *
  clear hg7 HB1
  have HE2 := Lib.hid (HE.out.below HB.out HG.out)
  go_upto_region 3 with (go_at_call 6; (with_reducible refine (shNew_any _ HE2.out).mono ?_); rintro e w' ⟨rfl, rfl⟩)
  have M := Lib.hid (show SuM w (w2.alloc (.cells (hashCells BT (fun _ => 0) 0) 63)) g7 (sumF xs) w2.heap.size (putF h0 (xs.take 0)) from
    ⟨HB.out.trans ((below_alloc w2 _).mono HB.out.size), HR7.out.alloc _, heap_alloc_new w2 _, HG7.out, HB.out.size, by have := HLT7.out; omega⟩)
  generalize w2.alloc (.cells (hashCells BT (fun _ => 0) 0) 63) = w3 at *
  obtain ⟨g, hg⟩ : ∃ g, g = w2.heap.size := ⟨_, rfl⟩
  rw [← hg] at M ⊢
  clear hg HR7 HB HS7 HE2 HLT7
  have HGG := Lib.hid (show 1 < g by have := M.out.lg; have := HG.out; omega)
  go_wp2_with (fail)
  go_loopw [9, 10] (fun at_ i wr => ∃ p k : Nat, p ≤ xs.length ∧ k ≤ 30 ∧ at_ = .int .i64 p ∧ i = .int .i64 k ∧ Hid (SuM w wr g7 (sumF xs) g (putF h0 (xs.take p)))) (fun _ i _ => 30 - (intOf i).toNat)
  case atStart => exact ⟨0, 0, by omega, by omega, rfl, rfl, M⟩
  case round =>
    clear M
    obtain ⟨p, k, hp, hk, rfl, rfl, M⟩ := hrel
    have hlo := sliceBlo a xs.length cap p hp
    by_cases hlt : k < cs.length ∧ k < 30
    · obtain ⟨hlt, hlt30⟩ := hlt
      have hltI : (k : Int) < cs.length := by omega
      have hlt30I : (k : Int) < 30 := by omega
      obtain ⟨c0, hc0⟩ : ∃ c0, cs[k]? = some c0 := ⟨cs[k], List.getElem?_eq_getElem hlt⟩
      obtain ⟨ab, ao, rfl, hcell⟩ := HCC.out.resolve_left (by rintro rfl; simp at hlt)
      have hcc0 := hcell k c0 hc0
      have hcc := M.out.below.cell (p := ⟨ab, ao + k, none⟩) (World.block_lt_of_cell? w _ hcc0) |>.trans hcc0
      obtain ⟨m, hm, hmw⟩ := mod90 c0
      obtain ⟨q, hq⟩ : ∃ q : Nat, min (m : Int) ((xs.length : Int) - (p : Int)) = (q : Int) := ⟨(min (m : Int) ((xs.length : Int) - (p : Int))).toNat, by omega⟩
      have HQ := Lib.hid hq
      have hpq : p + q ≤ xs.length := by omega
      have hpqI : (p : Int) + (q : Int) ≤ xs.length := by omega
      have hsl := sliceBlh a xs.length cap p (p + q) (by omega) (by omega)
      rw [Nat.add_sub_cancel_left, Int.natCast_add] at hsl
      have HXC := Lib.hid (HX.out.cut p (p + q) (by omega) hpq)
      rw [Nat.add_sub_cancel_left] at HXC
      have HCL := Lib.hid (show ((xs.take (p + q)).drop p).length ≤ 140737488355328 by rw [List.length_drop, List.length_take]; have := HL2.out; omega)
      have HJ := Lib.hid (cutJoin xs p q)
      clear hq hcell hcc0 hc0
      go_upto_region 10 with (fail)
      rw [HQ.out]
      go_wp2_with (first
        | (go_at_call 8; (with_reducible refine (twin_any _ _ _ (HXC.out.below M.out.below) HCL.out).mono ?_); rintro e w4 ⟨vt, rfl, ho, hb⟩; have HT := Lib.hid (owns_at (g := g) ho (by have := HCL.out; unfold maxLen; omega) M.out.hash.lt); replace M := Lib.hid (M.out.call hb); clear ho hb)
        | (go_at_call 7; (with_reducible refine (shWrite_h g _ _ _ _ M.out.hash (putF_bounds h0 (by decide) (by decide) _) HT.out (HE.out.below M.out.below HG.out) HGG.out).mono ?_); rintro e w5 ⟨rfl, HH, HO⟩; rw [← putF_append, HJ.out] at HH; replace M := Lib.hid (M.out.wrote HH HO); clear HH HO HT)
        | (go_at_call 9; (with_reducible refine (shSumM_h g _ _ M.out.hash (putF_bounds h0 (by decide) (by decide) _) (HE.out.below M.out.below HG.out).consts).mono ?_); rintro e w6 ⟨rfl, hb⟩; replace M := Lib.hid (M.out.call hb); clear hb))
      go_roundw
      case rel => exact ⟨p + q, k + 1, by omega, by omega, by go_num, by go_num, M⟩
      case measure => simp [intOf]; omega
    · have HXD := Lib.hid (HX.out.cut p xs.length hp (Nat.le_refl _))
      have HDL := Lib.hid (show ((xs.take xs.length).drop p).length ≤ 140737488355328 by rw [List.length_drop, List.length_take]; have := HL2.out; omega)
      have HJ := Lib.hid (show xs.take p ++ (xs.take xs.length).drop p = xs by rw [List.take_length, List.take_append_drop])
      rcases (by omega : (¬ (k : Int) < cs.length) ∨ ((k : Int) < cs.length ∧ ¬ (k : Int) < 30)) with hA | ⟨hA, hB⟩
      all_goals
        go_upto_region 14 with (go_at_call 10; (with_reducible refine (shClone_any _ g _ _ _ M.out.hash).mono ?_); rintro e w4 ⟨rfl, rfl⟩)
        have HC2 := Lib.hid (heap_alloc_new wr (.cells (hashCells (putF h0 (xs.take p)).s (putF h0 (xs.take p)).b (putF h0 (xs.take p)).n) 63))
        have HQ2 := Lib.hid (show w.heap.size ≤ wr.heap.size ∧ g7 ≠ wr.heap.size ∧ g ≠ wr.heap.size ∧ 1 < wr.heap.size from ⟨M.out.below.size, by have := M.out.want.lt; omega, by have := M.out.hash.lt; omega, by have := M.out.below.size; have := HG.out; omega⟩)
        replace M := Lib.hid (M.out.call (below_alloc wr (.cells (hashCells (putF h0 (xs.take p)).s (putF h0 (xs.take p)).b (putF h0 (xs.take p)).n) 63)))
        replace HC2 := Lib.hid (show HashAt (wr.alloc (.cells (hashCells (putF h0 (xs.take p)).s (putF h0 (xs.take p)).b (putF h0 (xs.take p)).n) 63)) wr.heap.size (putF h0 (xs.take p)).s (putF h0 (xs.take p)).b (putF h0 (xs.take p)).n from HC2.out)
        generalize wr.alloc (.cells (hashCells (putF h0 (xs.take p)).s (putF h0 (xs.take p)).b (putF h0 (xs.take p)).n) 63) = w4 at *
        obtain ⟨g2, hg2⟩ : ∃ g2, g2 = wr.heap.size := ⟨_, rfl⟩
        rw [← hg2] at HC2 HQ2 ⊢
        clear hg2
        go_upto_region 17 with (first
          | (go_at_call 8; (with_reducible refine (twin_any _ _ _ (HXD.out.below M.out.below) HDL.out).mono ?_); rintro e w5 ⟨vt, rfl, ho, hb⟩; have HT := Lib.hid (owns_at (g := g) ho (by have := HDL.out; unfold maxLen; omega) M.out.hash.lt); replace HC2 := Lib.hid (HC2.out.below hb HC2.out.lt); replace M := Lib.hid (M.out.call hb); clear ho hb)
          | (go_at_call 7; (with_reducible refine (shWrite_h g _ _ _ _ M.out.hash (putF_bounds h0 (by decide) (by decide) _) HT.out (HE.out.below M.out.below HG.out) HGG.out).mono ?_); rintro e w6 ⟨rfl, HH, HO⟩; rw [← putF_append, HJ.out] at HH; replace HC2 := Lib.hid (show HashAt w6 g2 _ _ _ from (HO.block _ HC2.out.lt (Ne.symm HQ2.out.2.2.1)).trans HC2.out); replace M := Lib.hid (M.out.wrote HH HO); clear HH HO HT))
        have HB5 := Lib.hid (below_alloc w6 (.cells #[.int .u8 111, .int .u8 116, .int .u8 104, .int .u8 101, .int .u8 114] 5 (5, 6)))
        have HO5 := Lib.hid (other_at w6 g2 HC2.out.lt)
        replace M := Lib.hid (M.out.call HB5.out)
        replace HC2 := Lib.hid (HC2.out.below HB5.out HC2.out.lt)
        go_upto_region 18 with (go_at_call 7; (with_reducible refine (shWrite_h g2 _ _ _ _ HC2.out (putF_bounds h0 (by decide) (by decide) _) HO5.out (HE.out.below M.out.below HG.out) HQ2.out.2.2.2).mono ?_); rintro e w7 ⟨rfl, HH, HO⟩; replace M := Lib.hid (M.out.other HO HQ2.out.1 HQ2.out.2.1 HQ2.out.2.2.1); clear HH HO)
        clear HB5 HO5 HC2 HQ2
        go_upto_region 19 with (first
          | (go_at_call 11; (with_reducible refine (parse_any s _ HS.out).mono ?_); rintro e w8 ⟨rfl, hb⟩; rw [HXR.out, HCR.out]; replace M := Lib.hid (M.out.call hb); clear hb)
          | (refine wpList_store_row rfl 25 (.tmp 13) (.tmp 76) rfl w8.heap.size (rowOf .u8 32 X) rfl rfl 25 _ (heap_alloc_new _ _) (by rw [rowOf_size]; kernel_rfl) (by rw [rowOf_size]; rfl) (rowOf_one _ _ _) ?_; rw [World.setRow_alloc_new]))
        have R13 := Lib.hid (RowAt.new w8 .u8 32 25 X)
        replace M := Lib.hid (M.out.call (below_alloc w8 (.cells (rowOf .u8 32 X) 25)))
        generalize w8.alloc (.cells (rowOf .u8 32 X) 25) = w9 at *
        obtain ⟨g13, hg13⟩ : ∃ g13, g13 = w8.heap.size := ⟨_, rfl⟩
        rw [← hg13] at R13 ⊢
        clear hg13
        go_upto_region 20 with (first
          | (go_at_call 12; (with_reducible refine (rparse_any s _ HS.out).mono ?_); rintro e w10 ⟨rfl, hb⟩; rw [HXR.out, HCR.out]; replace R13 := Lib.hid (R13.out.below hb R13.out.lt); replace M := Lib.hid (M.out.call hb); clear hb)
          | (refine wpList_store_row rfl 25 (.tmp 15) (.tmp 81) rfl w10.heap.size (rowOf .u8 32 X) rfl rfl 25 _ (heap_alloc_new _ _) (by rw [rowOf_size]; kernel_rfl) (by rw [rowOf_size]; rfl) (rowOf_one _ _ _) ?_; rw [World.setRow_alloc_new]))
        have R15 := Lib.hid (RowAt.new w10 .u8 32 25 X)
        replace R13 := Lib.hid (R13.out.below (below_alloc w10 (.cells (rowOf .u8 32 X) 25)) R13.out.lt)
        replace M := Lib.hid (M.out.call (below_alloc w10 (.cells (rowOf .u8 32 X) 25)))
        generalize w10.alloc (.cells (rowOf .u8 32 X) 25) = w11 at *
        obtain ⟨g15, hg15⟩ : ∃ g15, g15 = w10.heap.size := ⟨_, rfl⟩
        rw [← hg15] at R15 ⊢
        clear hg15
        replace M := Lib.hid (show SuE w w11 g7 (sumF xs) g (putF h0 xs) g13 g15 X from ⟨M.out.below, M.out.want, M.out.hash, R13.out, R15.out⟩)
        clear R13 R15
        go_upto_region 22 with (go_at_call 7; (with_reducible refine (nilWrite_any _ _).mono ?_); rintro e w12 ⟨rfl, rfl⟩)
        refine wp_region_T (fun w' => SuE w w' g7 (sumF xs) g (putF h0 xs) g13 g15 X) [1, 2, 3, 7, 8, 12, 13, 14, 15, 19, 20, 25, 31, 37, 41] (by kernel_rfl) ?_
        replace M := Lib.hid (M.out.call (Below.refl _ _).drew)
        generalize w11.drew = w13 at *
        refine anyT_takeY (i := 0) (v := .slice a xs.length cap) rfl (by kernel_rfl) (by kernel_rfl) (by kernel_rfl) (fun _ _ _ h => h) (by kernel_rfl) (Or.inl ⟨by rfl, by intro w; go_simp⟩) ?_
        try simp only [List.getElem_toArray, List.getElem_cons_succ, List.getElem_cons_zero, Act.put, List.setIfInBounds_toArray, List.set_cons_zero, List.set_cons_succ]
        refine anyT_take [4, 5, 6, 7, 8, 9, 10, 11, 12, 13, 14, 15, 16, 17, 18, 19, 20, 21, 22, 23, 24, 25, 26, 27, 28, 29, 30, 31, 32, 33, 34, 35, 36, 37, 38, 39, 40, 41, 42, 43] (i := 3) (v := .agg (rowOf .u8 32 (sumF xs))) rfl (by kernel_rfl) (by kernel_rfl) (by kernel_rfl) (fun _ _ _ h => h) (by kernel_rfl) (row_yields (by rfl) 25 (.tmp 7) rfl g7 rfl .u8 32 (sumF xs) _ (fun _ h => h.r7) Tryd.underlying25 rfl (by kernel_rfl)) M.out ?_
        try simp only [List.getElem_toArray, List.getElem_cons_succ, List.getElem_cons_zero, Act.put, List.setIfInBounds_toArray, List.set_cons_zero, List.set_cons_succ]
        refine anyT_one (i := 1) (by kernel_rfl) rfl (fun K hK => ?_)
        rw [if_pos (by rfl)]
        try simp only [List.getElem_toArray, List.getElem_cons_succ, List.getElem_cons_zero]
        (go_simp; refine (twin_any _ xs _ (HX.out.below M.out.below) HL2.out).mono ?_; rintro e w_1 ⟨vt, rfl, ho, hb⟩; have HT := Lib.hid (owns_in ho (by have := HL2.out; unfold maxLen; omega)); replace M := Lib.hid (M.out.call hb); clear ho hb)
        refine hK _ _ (fun _ => M.out) ?_
        clear hK K
        try simp only [List.getElem_toArray, List.getElem_cons_succ, List.getElem_cons_zero, Act.put, List.setIfInBounds_toArray, List.set_cons_zero, List.set_cons_succ]
        refine anyT_one (i := 2) (by kernel_rfl) rfl (fun K hK => ?_)
        rw [if_pos (by rfl)]
        try simp only [List.getElem_toArray, List.getElem_cons_succ, List.getElem_cons_zero]
        (go_simp; refine (shSum_any _ xs _ HT.out (HE.out.below M.out.below HE.out.lt)).mono ?_; rintro e w_2 ⟨rfl, hb⟩; replace M := Lib.hid (M.out.call hb); clear hb HT)
        refine hK _ _ (fun _ => M.out) ?_
        clear hK K
        try simp only [List.getElem_toArray, List.getElem_cons_succ, List.getElem_cons_zero, Act.put, List.setIfInBounds_toArray, List.set_cons_zero, List.set_cons_succ]
        refine anyT_takeY (i := 4) (v := .bool true) rfl (by kernel_rfl) (by kernel_rfl) (by kernel_rfl) (fun _ _ _ h => h) (by kernel_rfl) (Or.inl ⟨by rfl, fun w' => by have h := eqIn32_self (sumF xs) w'; go_simp⟩) ?_
        try simp only [List.getElem_toArray, List.getElem_cons_succ, List.getElem_cons_zero, Act.put, List.setIfInBounds_toArray, List.set_cons_zero, List.set_cons_succ]
        refine anyT_takeY (i := 5) (v := .bool true) rfl (by kernel_rfl) (by kernel_rfl) (by kernel_rfl) (fun _ _ _ h => h) (by kernel_rfl) (Or.inl ⟨by rfl, by intro w; go_simp⟩) ?_
        try simp only [List.getElem_toArray, List.getElem_cons_succ, List.getElem_cons_zero, Act.put, List.setIfInBounds_toArray, List.set_cons_zero, List.set_cons_succ]
        refine anyT_takeY (i := 6) (v := .pointer (some ⟨g, 0, none⟩)) rfl (by kernel_rfl) (by kernel_rfl) (by kernel_rfl) (fun _ _ _ h => h) (by kernel_rfl) (Or.inl ⟨by rfl, by intro w; go_simp⟩) ?_
        try simp only [List.getElem_toArray, List.getElem_cons_succ, List.getElem_cons_zero, Act.put, List.setIfInBounds_toArray, List.set_cons_zero, List.set_cons_succ]
        refine anyT_take [9, 10, 11, 12, 13, 14, 15, 16, 17, 18, 19, 20, 21, 22, 23, 24, 25, 26, 27, 28, 29, 30, 31, 32, 33, 34, 35, 36, 37, 38, 39, 40, 41, 42, 43] (i := 8) (v := .agg (rowOf .u8 32 (sumF xs))) rfl (by kernel_rfl) (by kernel_rfl) (by kernel_rfl) (fun _ _ _ h => h) (by kernel_rfl) (row_yields (by rfl) 25 (.tmp 7) rfl g7 rfl .u8 32 (sumF xs) _ (fun _ h => h.r7) Tryd.underlying25 rfl (by kernel_rfl)) M.out ?_
        try simp only [List.getElem_toArray, List.getElem_cons_succ, List.getElem_cons_zero, Act.put, List.setIfInBounds_toArray, List.set_cons_zero, List.set_cons_succ]
        refine anyT_one (i := 7) (by kernel_rfl) rfl (fun K hK => ?_)
        rw [if_pos (by rfl)]
        try simp only [List.getElem_toArray, List.getElem_cons_succ, List.getElem_cons_zero]
        (go_simp; refine (shSumM_h g _ _ M.out.hash (putF_bounds h0 (by decide) (by decide) xs) (HE.out.below M.out.below HE.out.lt).consts).mono ?_; rintro e w_7 ⟨rfl, hb⟩; rw [show hsum (putF h0 xs) = sumF xs from rfl]; replace M := Lib.hid (M.out.call hb); clear hb)
        refine hK _ _ (fun _ => M.out) ?_
        clear hK K
        try simp only [List.getElem_toArray, List.getElem_cons_succ, List.getElem_cons_zero, Act.put, List.setIfInBounds_toArray, List.set_cons_zero, List.set_cons_succ]
        refine anyT_takeY (i := 9) (v := .bool true) rfl (by kernel_rfl) (by kernel_rfl) (by kernel_rfl) (fun _ _ _ h => h) (by kernel_rfl) (Or.inl ⟨by rfl, fun w' => by have h := eqIn32_self (sumF xs) w'; go_simp⟩) ?_
        try simp only [List.getElem_toArray, List.getElem_cons_succ, List.getElem_cons_zero, Act.put, List.setIfInBounds_toArray, List.set_cons_zero, List.set_cons_succ]
        refine anyT_takeY (i := 10) (v := .bool true) rfl (by kernel_rfl) (by kernel_rfl) (by kernel_rfl) (fun _ _ _ h => h) (by kernel_rfl) (Or.inl ⟨by rfl, by intro w; go_simp⟩) ?_
        try simp only [List.getElem_toArray, List.getElem_cons_succ, List.getElem_cons_zero, Act.put, List.setIfInBounds_toArray, List.set_cons_zero, List.set_cons_succ]
        refine anyT_takeY (i := 11) (v := .bool true) rfl (by kernel_rfl) (by kernel_rfl) (by kernel_rfl) (fun _ _ _ h => h) (by kernel_rfl) (Or.inl ⟨by rfl, by intro w; go_simp⟩) ?_
        try simp only [List.getElem_toArray, List.getElem_cons_succ, List.getElem_cons_zero, Act.put, List.setIfInBounds_toArray, List.set_cons_zero, List.set_cons_succ]
        refine anyT_take [13, 16, 17, 18, 19, 20, 21, 22, 23, 24, 25, 26, 27, 28, 29, 30, 31, 32, 33, 34, 35, 36, 37, 38, 39, 40, 41, 42, 43] (i := 12) (v := .agg (rowOf .u8 32 (sumF xs))) rfl (by kernel_rfl) (by kernel_rfl) (by kernel_rfl) (fun _ _ _ h => h) (by kernel_rfl) (row_yields (by rfl) 25 (.tmp 7) rfl g7 rfl .u8 32 (sumF xs) _ (fun _ h => h.r7) Tryd.underlying25 rfl (by kernel_rfl)) M.out ?_
        try simp only [List.getElem_toArray, List.getElem_cons_succ, List.getElem_cons_zero, Act.put, List.setIfInBounds_toArray, List.set_cons_zero, List.set_cons_succ]
        refine anyT_take [15, 16, 17, 18, 19, 20, 21, 22, 23, 24, 25, 26, 27, 28, 29, 30, 31, 32, 33, 34, 35, 36, 37, 38, 39, 40, 41, 42, 43] (i := 14) (v := .agg (rowOf .u8 32 (sumF xs))) rfl (by kernel_rfl) (by kernel_rfl) (by kernel_rfl) (fun _ _ _ h => h) (by kernel_rfl) (row_yields (by rfl) 25 (.tmp 7) rfl g7 rfl .u8 32 (sumF xs) _ (fun _ h => h.r7) Tryd.underlying25 rfl (by kernel_rfl)) M.out ?_
        try simp only [List.getElem_toArray, List.getElem_cons_succ, List.getElem_cons_zero, Act.put, List.setIfInBounds_toArray, List.set_cons_zero, List.set_cons_succ]
        refine anyT_one (i := 13) (by kernel_rfl) rfl (fun K hK => ?_)
        rw [if_pos (by rfl)]
        try simp only [List.getElem_toArray, List.getElem_cons_succ, List.getElem_cons_zero]
        (go_simp; refine (text_any (sumF xs) (fun i _ => outF_bounds _ _) _).mono ?_; rintro e w_13 ⟨rfl, hb⟩; replace M := Lib.hid (M.out.call hb); clear hb)
        refine hK _ _ (fun _ => M.out) ?_
        clear hK K
        try simp only [List.getElem_toArray, List.getElem_cons_succ, List.getElem_cons_zero, Act.put, List.setIfInBounds_toArray, List.set_cons_zero, List.set_cons_succ]
        refine anyT_one (i := 15) (by kernel_rfl) rfl (fun K hK => ?_)
        rw [if_pos (by rfl)]
        try simp only [List.getElem_toArray, List.getElem_cons_succ, List.getElem_cons_zero]
        (go_simp; refine (rtext_any (sumF xs) (fun i _ => outF_bounds _ _) _).mono ?_; rintro e w_15 ⟨rfl, hb⟩; replace M := Lib.hid (M.out.call hb); clear hb)
        refine hK _ _ (fun _ => M.out) ?_
        clear hK K
        try simp only [List.getElem_toArray, List.getElem_cons_succ, List.getElem_cons_zero, Act.put, List.setIfInBounds_toArray, List.set_cons_zero, List.set_cons_succ]
        refine anyT_takeY (i := 16) (v := .bool true) rfl (by kernel_rfl) (by kernel_rfl) (by kernel_rfl) (fun _ _ _ h => h) (by kernel_rfl) (Or.inl ⟨by rfl, by intro w; go_simp⟩) ?_
        try simp only [List.getElem_toArray, List.getElem_cons_succ, List.getElem_cons_zero, Act.put, List.setIfInBounds_toArray, List.set_cons_zero, List.set_cons_succ]
        refine anyT_takeY (i := 17) (v := .bool true) rfl (by kernel_rfl) (by kernel_rfl) (by kernel_rfl) (fun _ _ _ h => h) (by kernel_rfl) (Or.inl ⟨by rfl, by intro w; go_simp⟩) ?_
        try simp only [List.getElem_toArray, List.getElem_cons_succ, List.getElem_cons_zero, Act.put, List.setIfInBounds_toArray, List.set_cons_zero, List.set_cons_succ]
        refine anyT_takeY (i := 18) (v := .bool true) rfl (by kernel_rfl) (by kernel_rfl) (by kernel_rfl) (fun _ _ _ h => h) (by kernel_rfl) (Or.inl ⟨by rfl, by intro w; go_simp⟩) ?_
        try simp only [List.getElem_toArray, List.getElem_cons_succ, List.getElem_cons_zero, Act.put, List.setIfInBounds_toArray, List.set_cons_zero, List.set_cons_succ]
        refine anyT_take [21, 22, 23, 24, 25, 26, 27, 28, 29, 30, 31, 32, 33, 34, 35, 36, 37, 38, 39, 40, 41, 42, 43] (i := 19) (v := .agg (rowOf .u8 32 X)) rfl (by kernel_rfl) (by kernel_rfl) (by kernel_rfl) (fun _ _ _ h => h) (by kernel_rfl) (row_yields (by rfl) 25 (.tmp 13) rfl g13 rfl .u8 32 X _ (fun _ h => h.r13) Tryd.underlying25 rfl (by kernel_rfl)) M.out ?_
        try simp only [List.getElem_toArray, List.getElem_cons_succ, List.getElem_cons_zero, Act.put, List.setIfInBounds_toArray, List.set_cons_zero, List.set_cons_succ]
        refine anyT_take [21, 22, 23, 24, 25, 26, 27, 28, 29, 30, 31, 32, 33, 34, 35, 36, 37, 38, 39, 40, 41, 42, 43] (i := 20) (v := .agg (rowOf .u8 32 X)) rfl (by kernel_rfl) (by kernel_rfl) (by kernel_rfl) (fun _ _ _ h => h) (by kernel_rfl) (row_yields (by rfl) 25 (.tmp 15) rfl g15 rfl .u8 32 X _ (fun _ h => h.r15) Tryd.underlying25 rfl (by kernel_rfl)) M.out ?_
        try simp only [List.getElem_toArray, List.getElem_cons_succ, List.getElem_cons_zero, Act.put, List.setIfInBounds_toArray, List.set_cons_zero, List.set_cons_succ]
        refine anyT_takeY (i := 21) (v := .bool true) rfl (by kernel_rfl) (by kernel_rfl) (by kernel_rfl) (fun _ _ _ h => h) (by kernel_rfl) (Or.inl ⟨by rfl, fun w' => by have h := eqIn32_self X w'; go_simp⟩) ?_
        try simp only [List.getElem_toArray, List.getElem_cons_succ, List.getElem_cons_zero, Act.put, List.setIfInBounds_toArray, List.set_cons_zero, List.set_cons_succ]
        refine anyT_takeY (i := 22) (v := .bool true) rfl (by kernel_rfl) (by kernel_rfl) (by kernel_rfl) (fun _ _ _ h => h) (by kernel_rfl) (Or.inl ⟨by rfl, by intro w; go_simp⟩) ?_
        try simp only [List.getElem_toArray, List.getElem_cons_succ, List.getElem_cons_zero, Act.put, List.setIfInBounds_toArray, List.set_cons_zero, List.set_cons_succ]
        refine anyT_takeY (i := 23) (v := .bool true) rfl (by kernel_rfl) (by kernel_rfl) (by kernel_rfl) (fun _ _ _ h => h) (by kernel_rfl) (Or.inl ⟨by rfl, by intro w; go_simp⟩) ?_
        try simp only [List.getElem_toArray, List.getElem_cons_succ, List.getElem_cons_zero, Act.put, List.setIfInBounds_toArray, List.set_cons_zero, List.set_cons_succ]
        refine anyT_takeY (i := 24) (v := errV c) rfl (by kernel_rfl) (by kernel_rfl) (by kernel_rfl) (fun _ _ _ h => h) (by kernel_rfl) (Or.inl ⟨by rfl, by intro w; go_simp⟩) ?_
        try simp only [List.getElem_toArray, List.getElem_cons_succ, List.getElem_cons_zero, Act.put, List.setIfInBounds_toArray, List.set_cons_zero, List.set_cons_succ]
        refine anyT_takeY (i := 26) (v := .int .i64 (numE c)) rfl (by kernel_rfl) (by kernel_rfl) (by kernel_rfl) (fun _ _ _ h => h) (by kernel_rfl) (Or.inl ⟨by rfl, by intro w; go_simp⟩) ?_
        try simp only [List.getElem_toArray, List.getElem_cons_succ, List.getElem_cons_zero, Act.put, List.setIfInBounds_toArray, List.set_cons_zero, List.set_cons_succ]
        refine anyT_one (i := 25) (by kernel_rfl) rfl (fun K hK => ?_)
        rw [if_pos (by rfl)]
        try simp only [List.getElem_toArray, List.getElem_cons_succ, List.getElem_cons_zero]
        (go_simp; refine (num_any c _ (HET.out.below M.out.below)).mono ?_; rintro e w_25 ⟨rfl, hb⟩; replace M := Lib.hid (M.out.call hb); clear hb)
        refine hK _ _ (fun _ => M.out) ?_
        clear hK K
        try simp only [List.getElem_toArray, List.getElem_cons_succ, List.getElem_cons_zero, Act.put, List.setIfInBounds_toArray, List.set_cons_zero, List.set_cons_succ]
        refine anyT_takeY (i := 27) (v := .bool true) rfl (by kernel_rfl) (by kernel_rfl) (by kernel_rfl) (fun _ _ _ h => h) (by kernel_rfl) (Or.inl ⟨by rfl, by intro w; go_simp⟩) ?_
        try simp only [List.getElem_toArray, List.getElem_cons_succ, List.getElem_cons_zero, Act.put, List.setIfInBounds_toArray, List.set_cons_zero, List.set_cons_succ]
        refine anyT_takeY (i := 28) (v := .bool true) rfl (by kernel_rfl) (by kernel_rfl) (by kernel_rfl) (fun _ _ _ h => h) (by kernel_rfl) (Or.inl ⟨by rfl, by intro w; go_simp⟩) ?_
        try simp only [List.getElem_toArray, List.getElem_cons_succ, List.getElem_cons_zero, Act.put, List.setIfInBounds_toArray, List.set_cons_zero, List.set_cons_succ]
        refine anyT_takeY (i := 29) (v := .bool true) rfl (by kernel_rfl) (by kernel_rfl) (by kernel_rfl) (fun _ _ _ h => h) (by kernel_rfl) (Or.inl ⟨by rfl, by intro w; go_simp⟩) ?_
        try simp only [List.getElem_toArray, List.getElem_cons_succ, List.getElem_cons_zero, Act.put, List.setIfInBounds_toArray, List.set_cons_zero, List.set_cons_succ]
        refine anyT_takeY (i := 30) (v := .pointer none) rfl (by kernel_rfl) (by kernel_rfl) (by kernel_rfl) (fun _ _ _ h => h) (by kernel_rfl) (Or.inl ⟨by rfl, by intro w; go_simp⟩) ?_
        try simp only [List.getElem_toArray, List.getElem_cons_succ, List.getElem_cons_zero, Act.put, List.setIfInBounds_toArray, List.set_cons_zero, List.set_cons_succ]
        refine anyT_takeY (i := 32) (v := .agg (rowOf .u8 32 (fun _ => 0))) rfl (by kernel_rfl) (by kernel_rfl) (by kernel_rfl) (fun _ _ _ h => h) (by kernel_rfl) (Or.inl ⟨by rfl, by intro w'; rw [← zeros32]; go_simp⟩) ?_
        try simp only [List.getElem_toArray, List.getElem_cons_succ, List.getElem_cons_zero, Act.put, List.setIfInBounds_toArray, List.set_cons_zero, List.set_cons_succ]
        refine anyT_one (i := 31) (by kernel_rfl) rfl (fun K hK => ?_)
        rw [if_pos (by rfl)]
        try simp only [List.getElem_toArray, List.getElem_cons_succ, List.getElem_cons_zero]
        (go_simp; refine (nilSum_any _).mono ?_; rintro e w_31 ⟨rfl, hb⟩; replace M := Lib.hid (M.out.call hb); clear hb)
        refine hK _ _ (fun _ => M.out) ?_
        clear hK K
        try simp only [List.getElem_toArray, List.getElem_cons_succ, List.getElem_cons_zero, Act.put, List.setIfInBounds_toArray, List.set_cons_zero, List.set_cons_succ]
        refine anyT_takeY (i := 33) (v := .bool true) rfl (by kernel_rfl) (by kernel_rfl) (by kernel_rfl) (fun _ _ _ h => h) (by kernel_rfl) (Or.inl ⟨by rfl, fun w' => by have h := eqIn32_self (fun _ => 0) w'; go_simp⟩) ?_
        try simp only [List.getElem_toArray, List.getElem_cons_succ, List.getElem_cons_zero, Act.put, List.setIfInBounds_toArray, List.set_cons_zero, List.set_cons_succ]
        refine anyT_takeY (i := 34) (v := .bool true) rfl (by kernel_rfl) (by kernel_rfl) (by kernel_rfl) (fun _ _ _ h => h) (by kernel_rfl) (Or.inl ⟨by rfl, by intro w; go_simp⟩) ?_
        try simp only [List.getElem_toArray, List.getElem_cons_succ, List.getElem_cons_zero, Act.put, List.setIfInBounds_toArray, List.set_cons_zero, List.set_cons_succ]
        refine anyT_takeY (i := 35) (v := .bool true) rfl (by kernel_rfl) (by kernel_rfl) (by kernel_rfl) (fun _ _ _ h => h) (by kernel_rfl) (Or.inl ⟨by rfl, by intro w; go_simp⟩) ?_
        try simp only [List.getElem_toArray, List.getElem_cons_succ, List.getElem_cons_zero, Act.put, List.setIfInBounds_toArray, List.set_cons_zero, List.set_cons_succ]
        refine anyT_takeY (i := 36) (v := .pointer none) rfl (by kernel_rfl) (by kernel_rfl) (by kernel_rfl) (fun _ _ _ h => h) (by kernel_rfl) (Or.inl ⟨by rfl, by intro w; go_simp⟩) ?_
        try simp only [List.getElem_toArray, List.getElem_cons_succ, List.getElem_cons_zero, Act.put, List.setIfInBounds_toArray, List.set_cons_zero, List.set_cons_succ]
        refine anyT_one (i := 37) (by kernel_rfl) rfl (fun K hK => ?_)
        rw [if_pos (by rfl)]
        try simp only [List.getElem_toArray, List.getElem_cons_succ, List.getElem_cons_zero]
        (go_simp; refine (nilClone_any _).mono ?_; rintro e w_37 ⟨rfl, rfl⟩)
        refine hK _ _ (fun _ => M.out) ?_
        clear hK K
        try simp only [List.getElem_toArray, List.getElem_cons_succ, List.getElem_cons_zero, Act.put, List.setIfInBounds_toArray, List.set_cons_zero, List.set_cons_succ]
        refine anyT_takeY (i := 38) (v := .bool true) rfl (by kernel_rfl) (by kernel_rfl) (by kernel_rfl) (fun _ _ _ h => h) (by kernel_rfl) (Or.inl ⟨by rfl, by intro w; go_simp⟩) ?_
        try simp only [List.getElem_toArray, List.getElem_cons_succ, List.getElem_cons_zero, Act.put, List.setIfInBounds_toArray, List.set_cons_zero, List.set_cons_succ]
        refine anyT_takeY (i := 39) (v := .bool true) rfl (by kernel_rfl) (by kernel_rfl) (by kernel_rfl) (fun _ _ _ h => h) (by kernel_rfl) (Or.inl ⟨by rfl, by intro w; go_simp⟩) ?_
        try simp only [List.getElem_toArray, List.getElem_cons_succ, List.getElem_cons_zero, Act.put, List.setIfInBounds_toArray, List.set_cons_zero, List.set_cons_succ]
        refine anyT_takeY (i := 40) (v := .bool true) rfl (by kernel_rfl) (by kernel_rfl) (by kernel_rfl) (fun _ _ _ h => h) (by kernel_rfl) (Or.inl ⟨by rfl, by intro w; go_simp⟩) ?_
        try simp only [List.getElem_toArray, List.getElem_cons_succ, List.getElem_cons_zero, Act.put, List.setIfInBounds_toArray, List.set_cons_zero, List.set_cons_succ]
        refine anyT_one (i := 41) (by kernel_rfl) rfl (fun K hK => ?_)
        rw [if_pos (by rfl)]
        try simp only [List.getElem_toArray, List.getElem_cons_succ, List.getElem_cons_zero]
        (go_simp; refine (shsure_any _ (HE.out.below M.out.below HE.out.lt)).mono ?_; rintro e w_41 ⟨rfl, hb⟩; replace M := Lib.hid (M.out.call hb); clear hb)
        refine hK _ _ (fun _ => M.out) ?_
        clear hK K
        try simp only [List.getElem_toArray, List.getElem_cons_succ, List.getElem_cons_zero, Act.put, List.setIfInBounds_toArray, List.set_cons_zero, List.set_cons_succ]
        refine anyT_takeY (i := 42) (v := .bool true) rfl (by kernel_rfl) (by kernel_rfl) (by kernel_rfl) (fun _ _ _ h => h) (by kernel_rfl) (Or.inl ⟨by rfl, by intro w; go_simp⟩) ?_
        try simp only [List.getElem_toArray, List.getElem_cons_succ, List.getElem_cons_zero, Act.put, List.setIfInBounds_toArray, List.set_cons_zero, List.set_cons_succ]
        refine anyT_takeY (i := 43) (v := .bool true) rfl (by kernel_rfl) (by kernel_rfl) (by kernel_rfl) (fun _ _ _ h => h) (by kernel_rfl) (Or.inl ⟨by rfl, by intro w; go_simp⟩) ?_
        try simp only [List.getElem_toArray, List.getElem_cons_succ, List.getElem_cons_zero, Act.put, List.setIfInBounds_toArray, List.set_cons_zero, List.set_cons_succ]
        refine anyT_done (by kernel_rfl) ?_ _
        go_wp2_with (fail)
        go_ret
        exact ⟨rfl, M.out.below⟩
#print axioms ssums_any
end Go.Proofs.YtbppainejdphpaaDoor

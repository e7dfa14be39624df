/- ShaDepth: the walk. -/
import Derived.Test.YtpdolfpoekhfaaaDoorFold
namespace Go.Proofs.YtpdolfpoekhfaaaDoor
open Go.RowKit
theorem flatC_get : ∀ (ps : List (Nat → Int)) (i j : Nat), i < ps.length → j < 32 → (flatC ps)[i * 32 + j]? = (rowOf .u8 32 (ps.getD i zeroH)).toList[j]?
  | [], i, j, h, _ => by simp at h
  | p :: ps, 0, j, _, hj => by
    show ((rowOf .u8 32 p).toList ++ flatC ps)[0 * 32 + j]? = _
    rw [Nat.zero_mul, Nat.zero_add, List.getElem?_append_left (by rw [(rowOf_list _ _ _).2]; exact hj)]; rfl
  | p :: ps, i + 1, j, h, hj => by
    show ((rowOf .u8 32 p).toList ++ flatC ps)[(i + 1) * 32 + j]? = _
    rw [List.getElem?_append_right (by rw [(rowOf_list _ _ _).2]; omega), (rowOf_list _ _ _).2, show (i + 1) * 32 + j - 32 = i * 32 + j by omega, flatC_get ps i j (by simpa using h) hj]; rfl
theorem HashesIn.of_own {w : World} {B : Nat} {r : Value} {ps : List (Nat → Int)} (h : w.ownsRow B 25 32 r ps.length (flatC ps)) : HashesIn w r ps := by
  rcases h.2 with ⟨rfl, h0⟩ | ⟨tb, cap, cur, rfl, _, hh, hc, hm, _⟩
  · exact ⟨none, 0, by rw [h0], by omega, by simp [maxLen], .inl (List.eq_nil_of_length_eq_zero h0)⟩
  · refine ⟨_, cap, rfl, hc, hm, .inr ⟨tb, 0, rfl, (Array.getElem?_eq_some_iff.1 hh).1, fun i hi j u hj => ?_⟩⟩
    have hj32 : j < 32 := by have := (List.getElem?_eq_some_iff.1 hj).1; rw [(rowOf_list _ _ _).2] at this; exact this
    have := h.cells (g := tb) rfl (i * 32 + j) u (by rw [flatC_get ps i j hi hj32]; exact hj)
    rw [Addr.add_mid] at this
    rw [show 0 + i * 32 + j = 0 + (i * 32 + j) by omega]; exact this
theorem HashesIn.len {w : World} {r : Value} {ps : List (Nat → Int)} (h : HashesIn w r ps) : ∃ a cap, r = .slice a ps.length cap := by
  obtain ⟨a, cap, e, _⟩ := h
  exact ⟨a, cap, e⟩
theorem neq32 (f g : Nat → Int) (w : World) : (binOp .neq 25 (.agg (rowOf .u8 32 f)) (.agg (rowOf .u8 32 g))).run Tryd.prog w = .ok (.bool (!eqB f g)) w := by
  rw [run_neq_struct, run_equalIn_array w 9999 (i := (Tryd.prog.info? 5).getD default) _ _ Tryd.underlying25 (by kernel_rfl), show Tryd.prog.cellsOf 5 = 1 by kernel_rfl, eqItems32 f g w _ (fun i hi => by simpa using hi)]
  rfl
/-- what holds at the head of a round of the second loop -/
def DepthRel (n : Nat) (w : World) (v : Value) (wr : World) : Prop := ∃ i : Nat, i ≤ n ∧ v = .int .i64 (i : Int) ∧ Below w.heap.size w wr
set_option maxRecDepth 100000 in
set_option maxHeartbeats 400000 in
theorem depth_long (a : Option Addr) (n cap : Nat) (w : World) (hn : 60 < n) (he : Env w) :
    Calls Tryd.prog 7 #[.slice a n cap] w fun e w' => e = .returned (.bool true) ∧ Below w.heap.size w w' := by
  have HE := Lib.hid he
  clear he
  go_enter Tryd.func7, Tryd.ntmps7
  go_wp2_with (go_at_call 20; (with_reducible refine (sure_any _ HE.out).mono ?_); rintro e w' ⟨rfl, HB⟩)
  go_ret
  exact ⟨rfl, HB⟩
set_option maxRecDepth 100000 in
set_option maxHeartbeats 400000 in
theorem depth_short (a : Option Addr) (n cap : Nat) (hs : List (Nat → Int)) (w : World) (hn : n ≤ 60) (hx : HashesIn w (.slice a n cap) hs) (hl : n = hs.length) (he : Env w) :
    Calls Tryd.prog 7 #[.slice a n cap] w fun e w' => e = .returned (.bool true) ∧ Below w.heap.size w w' := by
  have HE := Lib.hid he
  have HX := Lib.hid hx
  have HL := Lib.hid hl
  clear he hx hl
  go_enter Tryd.func7, Tryd.ntmps7
  go_upto_region 4 with (fail)
  go_wp2_with (fail)
  go_loop [3, 4] (fun c d => ∃ m : Nat, c = .int .i64 (m : Int) ∧ d = .int .i64 ((2 ^ m : Nat) : Int) ∧ (m = 0 ∨ 2 ^ m < 2 * n)) (fun _ d => 120 - (intOf d).toNat)
  case atStart => exact ⟨0, rfl, rfl, .inl rfl⟩
  case round =>
    obtain ⟨m, rfl, rfl, hm⟩ := hrel
    obtain ⟨P, hP⟩ : ∃ P, P = 2 ^ m := ⟨_, rfl⟩
    rw [← hP] at hm ⊢
    replace hP := Lib.hid hP
    have hP1 : 1 ≤ P := by rw [hP.out]; exact Nat.one_le_two_pow
    have hP2 : P ≤ 120 := by rcases hm with rfl | hm; (rw [hP.out]; decide); omega
    replace hm := Lib.hid hm
    have hm6 : m ≤ 7 := by
      rcases Nat.lt_or_ge 7 m with h | h
      · have : 2 ^ 8 ≤ 2 ^ m := Nat.pow_le_pow_right (by omega) h
        rw [← hP.out] at this; omega
      · exact h
    by_cases hlt : P < n
    · go_wp2_with (fail)
      go_round
      case rel => exact ⟨m + 1, by go_num, by rw [Nat.pow_succ, ← hP.out, Nat.mul_comm]; rfl, .inr (by rw [Nat.pow_succ, ← hP.out]; omega)⟩
      case measure => simp [intOf]; omega
    · go_upto_region 8 with (fail)
      go_wp2_with (fail)
      have HMP := Lib.hid (show n ≤ 2 ^ m from by rw [← hP.out]; omega)
      clear hP hP1 hP2 hm hlt
      go_loopw [5] (fun x wr => DepthRel n w x wr) (fun x _ => n - (intOf x).toNat)
      case atStart => exact ⟨0, by omega, rfl, Below.refl _ _⟩
      case round =>
        obtain ⟨i, hin, rfl, HB⟩ := hrel
        replace HB := Lib.hid HB
        have HEr := Lib.hid (HE.out.below HB.out HE.out.lt)
        have HXr := Lib.hid (HX.out.below HB.out)
        by_cases hlt : i < n
        · have HI := Lib.hid (show i < hs.length from by rw [← HL.out]; exact hlt)
          obtain ⟨ps, hps⟩ : ∃ ps, ps = pathF hs i := ⟨_, rfl⟩
          replace hps := Lib.hid hps
          go_upto_region 12 with (go_at_call 21; (with_reducible refine (path_any hs i HI.out _ _ HXr.out HEr.out).mono ?_); rintro e w2 ⟨r, rfl, HO, HB2⟩; rw [← hps.out] at HO; replace HO := Lib.hid HO; replace HB2 := Lib.hid HB2)
          have HR2 := Lib.hid (HashesIn.of_own HO.out)
          obtain ⟨ra, rcap, hr⟩ := HR2.out.len
          obtain ⟨pl, hpl⟩ : ∃ pl, pl = ps.length := ⟨_, rfl⟩
          rw [← hpl] at hr
          subst hr
          have hplm : pl ≤ m := by rw [hpl, hps.out]; exact path_depth m hs i (by rw [← HL.out]; exact HMP.out) (by rw [← HL.out]; omega) HI.out
          have HPL := Lib.hid hpl
          clear hpl
          have HE2 := Lib.hid (HEr.out.below HB2.out HEr.out.lt)
          have HX2 := Lib.hid (HXr.out.below HB2.out)
          replace HB := Lib.hid (HB.out.trans (HB2.out.mono HB.out.size))
          obtain ⟨lf, hlf⟩ : ∃ lf, lf = hs.getD i zeroH := ⟨_, rfl⟩
          replace hlf := Lib.hid hlf
          have HLC := Lib.hid (path_cell HX2.out i lf (by rw [hlf.out]; simp [List.getD, HI.out]) (Below.refl _ _))
          obtain ⟨ab, ao, rfl, HLR⟩ := HLC.out
          replace HLR := Lib.hid HLR
          have HFR := Lib.hid (show ∀ w', HashesIn w' (.slice ra pl rcap) ps → Env w' → Calls Tryd.prog 24 #[.agg (rowOf .u8 32 lf), .int .i64 (i : Int), .int .i64 (n : Int), .slice ra pl rcap] w' fun e w2 => e = .returned (.tuple #[.agg (rowOf .u8 32 (rootF hs)), .nilIface]) ∧ Below w'.heap.size w' w2 from fun w' h1 h2 => by
            rw [hps.out] at h1
            rw [hlf.out]
            have := fold_any (hs.getD i zeroH) i n (.slice ra pl rcap) (pathF hs i) w' hlt (by omega) h1 (by rw [path_turns n hs i HL.out.symm (by omega) hlt]) h2
            have e : foldT (hs.getD i zeroH) ((turnsF i n).reverse.zip (pathF hs i)) = rootF hs := path_root n hs i HL.out.symm (by omega) hlt
            rw [e] at this; exact this)
          clear HO HB2 HEr HXr HLC
          go_upto_region 13 with (first
            | (refine wpList_load_mid rfl 25 (.tmp 37) rfl ab (ao + i * 32) rfl _ _ HLR.out Tryd.underlying25 rfl (by rw [(rowOf_list _ _ _).2]; kernel_rfl) ?_; rw [Array.toArray_toList])
            | (go_at_call 24; (with_reducible refine (HFR.out _ HR2.out HE2.out).mono ?_); rintro e w3 ⟨rfl, HB3⟩; replace HB3 := Lib.hid HB3)
            | (refine wpList_store_row rfl 25 (.tmp 8) (.tmp 44) rfl w3.heap.size _ rfl rfl 25 _ (heap_alloc_new _ _) (by rw [rowOf_size]; kernel_rfl) (by rw [rowOf_size]; rfl) (rowOf_one _ _ _) ?_; rw [World.setRow_alloc_new]; simp only [Act.put]))
          have hb4 := below_alloc w3 (.cells (rowOf .u8 32 (rootF hs)) 25)
          have HB4 := Lib.hid (HB.out.trans ((HB3.out.mono HB.out.size).trans (hb4.mono (Nat.le_trans HB.out.size HB3.out.size))))
          have HE4 := Lib.hid (HE.out.below HB4.out HE.out.lt)
          have HX4 := Lib.hid (HX.out.below HB4.out)
          have HR4 := Lib.hid (RowAt.new w3 .u8 32 25 (rootF hs))
          generalize w3.alloc (.cells (rowOf .u8 32 (rootF hs)) 25) = w4 at *
          obtain ⟨g, hg⟩ : ∃ g, g = w3.heap.size := ⟨_, rfl⟩
          rw [← hg] at HR4 ⊢
          clear hg HB3 hb4 HX2 HE2 HFR HLR HB HR2 hlf
          have hu25 := Tryd.underlying25
          have hi25 : (Tryd.prog.info? 25).map (·.size) = some (rowOf .u8 32 (rootF hs)).toList.length := by rw [(rowOf_list _ _ _).2]; kernel_rfl
          have hS0 : w4.drew.rangeAt g 0 (rowOf .u8 32 (rootF hs)).toList := HR4.out.range
          have HD := Lib.hid (show HashesIn w4.drew (.slice (some ⟨ab, ao, none⟩) n cap) hs ∧ Env w4.drew ∧ RowAt w4.drew g .u8 32 25 (rootF hs) ∧ Below w.heap.size w w4.drew from ⟨HX4.out, ⟨HE4.out.begin, HE4.out.consts⟩, HR4.out, HB4.out.drew⟩)
          have hd : decide ((m : Int) < (pl : Int)) = false := by simp; omega
          have hd2 : decide (m < pl) = false := by simp; omega
          have hne := neq32 (rootF hs) (rootF hs)
          rw [eqB_self] at hne
          go_region_held3 (fun w' => w'.rangeAt g 0 (rowOf .u8 32 (rootF hs)).toList) (first | (with_reducible exact hS0) | (with_reducible exact hS5)) (first | (go_at_call 29; (with_reducible refine (root_any _ hs rfl _ _ HD.out.1 HD.out.2.1).mono ?_); rintro e w5 ⟨rfl, HB5⟩; have hS5 : w5.rangeAt g 0 (rowOf .u8 32 (rootF hs)).toList := (HD.out.2.2.1.below HB5 HD.out.2.2.1.lt).range; replace HB5 := Lib.hid HB5))
          rename_i hH
          clear hH hS0 hS5 hu25 hi25
          have HB6 := Lib.hid (HD.out.2.2.2.trans (HB5.out.mono HD.out.2.2.2.size))
          clear HB5 HD HB4 HE4 HX4 HR4
          go_wp2_with (fail)
          go_roundw
          case rel => exact ⟨i + 1, by omega, by go_num, HB6.out⟩
          case measure => simp [intOf]; omega
        · have hin2 : i = n := by omega
          subst hin2
          go_wp2_with (go_at_call 20; (with_reducible refine (sure_any _ HEr.out).mono ?_); rintro e w' ⟨rfl, HB'⟩)
          go_ret
          exact ⟨rfl, HB.out.trans (HB'.mono HB.out.size)⟩
theorem depth_any (a : Option Addr) (n cap : Nat) (hs : List (Nat → Int)) (w : World) (hx : HashesIn w (.slice a n cap) hs) (hl : n = hs.length) (he : Env w) :
    Calls Tryd.prog 7 #[.slice a n cap] w fun e w' => e = .returned (.bool true) ∧ Below w.heap.size w w' := by
  rcases Nat.lt_or_ge 60 n with h | h
  · exact depth_long a n cap w h he
  · exact depth_short a n cap hs w h hx hl he
end Go.Proofs.YtpdolfpoekhfaaaDoor

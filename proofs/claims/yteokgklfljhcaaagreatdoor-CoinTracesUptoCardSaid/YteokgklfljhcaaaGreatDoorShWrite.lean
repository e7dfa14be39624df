/- Write: bytes into a Hash. -/
import Derived.Test.YteokgklfljhcaaaGreatDoorShPut
import Derived.Deep.RegionHeld3
namespace Go.Proofs.YteokgklfljhcaaaGreatDoor
open Go.RowKit
/-- v is a slice of the bytes xs, apart from block g -/
def BytesAt (w : World) (g : Nat) (v : Value) (xs : List Int) : Prop :=
  ∃ a cap, v = .slice a xs.length cap ∧ xs.length ≤ cap ∧ xs.length ≤ maxLen ∧ (xs = [] ∨ ∃ ab ao, a = some ⟨ab, ao, none⟩ ∧ ab ≠ g ∧ ∀ i x, xs[i]? = some x → w.cell? ⟨ab, ao + i, none⟩ = some (.int .u8 x))
theorem Only.env {g : Nat} {w w' : World} (h : Only g w w') (he : Env w) (hg : 2 < g) : Env w' :=
  ⟨fun i hi => h.cell (he.begin i hi) (by show 1 ≠ g; omega), fun i hi => h.cell (he.consts i hi) (by show 2 ≠ g; omega)⟩
theorem BytesAt.only {g : Nat} {w w' : World} {v : Value} {xs : List Int} (h : BytesAt w g v xs) (ho : Only g w w') : BytesAt w' g v xs := by
  obtain ⟨a, cap, rfl, hc, hm, hx⟩ := h
  refine ⟨a, cap, rfl, hc, hm, ?_⟩
  rcases hx with hx | ⟨ab, ao, rfl, hne, hx⟩
  · exact .inl hx
  · exact .inr ⟨ab, ao, rfl, hne, fun i x hi => ho.cell (hx i x hi) hne⟩
/-- a cut at m -/
theorem BytesAt.drop {g : Nat} {w : World} {ab ao cap m : Nat} {xs : List Int} (hc : xs.length ≤ cap) (hm : xs.length ≤ maxLen) (hne : ab ≠ g) (hx : ∀ i x, xs[i]? = some x → w.cell? ⟨ab, ao + i, none⟩ = some (.int .u8 x)) (hmx : m ≤ xs.length)
    (a' : Option Addr) (ha : a' = if cap = m then some ⟨ab, ao, none⟩ else some ⟨ab, ao + m, none⟩) : BytesAt w g (.slice a' (xs.length - m) (cap - m)) (xs.drop m) := by
  refine ⟨a', cap - m, by rw [List.length_drop], by rw [List.length_drop]; omega, by rw [List.length_drop]; omega, ?_⟩
  by_cases h : cap = m
  · left
    apply List.drop_eq_nil_of_le
    omega
  · right
    refine ⟨ab, ao + m, by rw [ha, if_neg h], hne, fun i x hi => ?_⟩
    rw [List.getElem?_drop] at hi
    rw [Nat.add_assoc]
    exact hx _ _ hi
theorem slice22l (ab ao n cap m : Nat) (hm : m ≤ n) (_hn : n ≤ cap) (a' : Option Addr) (ha : a' = if cap = m then some ⟨ab, ao, none⟩ else some ⟨ab, ao + m, none⟩) (w : World) :
    (Instr.slice 39 (.slice (some ⟨ab, ao, none⟩) n cap) (some (.int .i64 (m : Int))) none none).run Tryz.prog w = .ok (.slice a' (n - m) (cap - m)) w := by
  have he : Tryz.prog.elem 39 = 5 := by kernel_rfl
  have hs : (sizeOf 5).run Tryz.prog w = .ok 1 w := by kernel_rfl
  rw [run_slice_l w 39 (some ⟨ab, ao, none⟩) n cap (by rw [he]; exact Tryz.underlying39) .i64 (m : Int) (by omega) (by omega), he, hs]
  simp only [Result.andThen_ok, sliced, Int.toNat_natCast]
  subst ha
  by_cases h : cap = m
  · rw [if_pos h, if_pos h]
  · rw [if_neg h, if_neg h]
    show Result.ok (Value.slice (some (Addr.add ⟨ab, ao, none⟩ (m * 1))) _ _) w = _
    rw [Addr.add_mid, Nat.mul_one]
theorem slice64at (b o u : Nat) (hu : u < 64) (w : World) : (Instr.sliceAt 187 (.pointer (some ⟨b, o, none⟩)) (some (.int .u64 (u : Int))) none none).run Tryz.prog w
    = .ok (.slice (some ⟨b, o + u, none⟩) (64 - u) (64 - u)) w := by
  have ha : Tryz.prog.arrayLen 187 = 64 := by kernel_rfl
  have he : Tryz.prog.elem 187 = 5 := by kernel_rfl
  have hs : (sizeOf 5).run Tryz.prog w = .ok 1 w := by kernel_rfl
  rw [run_sliceAt_array_l w 187 ⟨b, o, none⟩ (by rw [ha, he]; exact Tryz.underlying187) .u64 (u : Int) (by omega) (by rw [ha]; omega), ha, he, hs]
  simp only [Result.andThen_ok, slicedAt, Int.toNat_natCast]
  rw [if_neg (by omega), Addr.add_mid, Nat.mul_one]
theorem mix_lit (s bl : Nat → Int) (w : World) (hk : Consts w) :
    Calls Tryz.prog 144 #[.agg #[.int .u32 (s 0), .int .u32 (s 1), .int .u32 (s 2), .int .u32 (s 3), .int .u32 (s 4), .int .u32 (s 5), .int .u32 (s 6), .int .u32 (s 7)], .agg (rowOf .u8 64 bl)] w fun e w' => e = .returned (.agg #[.int .u32 (mixF s bl 0), .int .u32 (mixF s bl 1), .int .u32 (mixF s bl 2), .int .u32 (mixF s bl 3), .int .u32 (mixF s bl 4), .int .u32 (mixF s bl 5), .int .u32 (mixF s bl 6), .int .u32 (mixF s bl 7)]) ∧ Below w.heap.size w w' :=
  mix_any s bl w hk
theorem range_set8 {w : World} {g : Nat} {cs : List Value} {i : Nat} {v : Value} (hi : i < 8) (h : w.rangeAt g 8 cs) : (w.setCell ⟨g, i, none⟩ v).rangeAt g 8 cs := fun j u hj => by
  rw [World.cell?_setCell_other _ _ _ _ (by intro e; injection e; omega)]
  exact h j u hj
theorem HashAt.setSl {g : Nat} {b : Nat → Int} {n : Int} : ∀ (l : List Int) (o : Nat) (s : Nat → Int) (w : World), o + l.length ≤ 8 → HashAt w g s b n → HashAt (w.setCells g o (l.map (Value.int .u32))) g (lay s o l) b n
  | [], _, _, _, _, h => h
  | y :: l, o, s, w, hl, h => by
    simp only [List.length_cons] at hl
    exact HashAt.setSl l (o + 1) _ _ (by omega) (h.setS o y (by omega))
theorem HashAt.setSs {w : World} {g : Nat} {s b : Nat → Int} {n : Int} (h : HashAt w g s b n) (s' : Nat → Int) : HashAt (w.setCells g 0 (rowOf .u32 8 s').toList) g s' b n := by
  have e : (rowOf .u32 8 s').toList = ((List.range 8).map s').map (Value.int .u32) := by simp [rowOf]
  rw [e]
  refine (h.setSl ((List.range 8).map s') 0 s w (by simp)).congr (fun i hi => ?_) (fun _ _ => rfl)
  rw [lay_get, if_pos (by simp; exact hi)]
  simp [List.getD, hi]
theorem HashAt.thereS {w : World} {g : Nat} {s b : Nat → Int} {n : Int} (h : HashAt w g s b n) {s' : Nat → Int} : w.there g 0 (rowOf .u32 8 s').size := fun j hj => by
  rw [rowOf_size] at hj
  rw [Nat.zero_add]
  exact ⟨by rw [h.cellS j hj]; rfl, h.free j⟩
theorem Only.setCells (g : Nat) : ∀ (vs : List Value) (o : Nat) (w : World), Only g w (w.setCells g o vs)
  | [], _, w => Only.refl g w
  | v :: r, o, w => (Only.setCell w ⟨g, o, none⟩ v).trans (Only.setCells g r (o + 1) _)
theorem put_next (h : HS) (ys : List Int) (m u : Nat) (h0 : 0 ≤ h.n) (h1 : h.n < 18446744073709551616) (hu : h.n % 64 = u) (hm : (ys.take m).length = m) (hlt : u + m < 64) (N : Int) (hN : N = IntKind.u64.wrap (h.n + m)) :
    putF ⟨h.s, lay h.b u (ys.take m), N⟩ (ys.drop m) = putF h ys ∧ 0 ≤ N ∧ N < 18446744073709551616 ∧ (N % 64 == 0) = (decide (u + m = 0)) := by
  rw [IntKind.wrap_u64] at hN
  have e := put_run h.s (ys.take m) h.b h.n u h0 h1 hu (by rw [hm]; exact hlt)
  rw [hm, ← hN] at e
  refine ⟨?_, by omega, by omega, ?_⟩
  · rw [← e, ← putF_append, List.take_append_drop]
  · by_cases hz : u + m = 0
    · rw [decide_eq_true hz, show N % 64 = 0 by omega]; rfl
    · rw [decide_eq_false hz, beq_eq_false_iff_ne]; omega
theorem put_next_full (h : HS) (ys : List Int) (m u : Nat) (h0 : 0 ≤ h.n) (h1 : h.n < 18446744073709551616) (hu : h.n % 64 = u) (hm : (ys.take m).length = m) (hlt : u + m = 64) (h64 : u < 64) (N : Int) (hN : N = IntKind.u64.wrap (h.n + m)) :
    putF ⟨mixF h.s (lay h.b u (ys.take m)), lay h.b u (ys.take m), N⟩ (ys.drop m) = putF h ys ∧ 0 ≤ N ∧ N < 18446744073709551616 ∧ (N % 64 == 0) = true := by
  rw [IntKind.wrap_u64] at hN
  have e := put_full h.s (ys.take m) h.b h.n u h0 h1 hu (by rw [hm]; exact hlt) h64
  rw [hm, ← hN] at e
  refine ⟨?_, by omega, by omega, ?_⟩
  · rw [← e, ← putF_append, List.take_append_drop]
  · rw [show N % 64 = 0 by omega]; rfl
def lenOfV : Value → Nat | .slice _ n _ => n | _ => 0
set_option maxRecDepth 100000 in
set_option maxHeartbeats 400000 in
theorem shWrite_any (g : Nat) (s b : Nat → Int) (n : Int) (xs : List Int) (v : Value) (w : World) (hh : HashAt w g s b n) (h0 : 0 ≤ n) (h1 : n < 18446744073709551616) (hx : BytesAt w g v xs) (he : Env w) (hg : 2 < g) :
    Calls Tryz.prog 99 #[.pointer (some ⟨g, 0, none⟩), v] w fun e w' => e = .returned (.tuple #[]) ∧ HashAt w' g (putF ⟨s, b, n⟩ xs).s (putF ⟨s, b, n⟩ xs).b (putF ⟨s, b, n⟩ xs).n ∧ Only g w w' := by
  obtain ⟨a0, c0, rfl, hx⟩ := hx
  have HX := Lib.hid (show BytesAt w g (.slice a0 xs.length c0) xs from ⟨a0, c0, rfl, hx⟩)
  have H0 := Lib.hid (show HashAt w g s b n ∧ 0 ≤ n ∧ n < 18446744073709551616 ∧ Env w from ⟨hh, h0, h1, he⟩)
  have HG := Lib.hid hg
  clear hx hh h0 h1 he hg
  go_enter Tryz.func99, Tryz.ntmps99
  go_wp2_with (fail)
  go_loopw [1] (fun v wr => Hid (∃ (ys : List Int) (h : HS), BytesAt wr g v ys ∧ HashAt wr g h.s h.b h.n ∧ 0 ≤ h.n ∧ h.n < 18446744073709551616 ∧ putF h ys = putF ⟨s, b, n⟩ xs ∧ Only g w wr ∧ Env wr))
    (fun v _ => lenOfV v)
  case atStart => exact ⟨xs, ⟨s, b, n⟩, HX.out, H0.out.1, H0.out.2.1, H0.out.2.2.1, rfl, Only.refl _ _, H0.out.2.2.2⟩
  case round =>
    clear HX H0
    obtain ⟨ys, h, ⟨a, cap, rfl, hc, hm, hx0⟩, HH, h0, h1, HP, HO, HE⟩ := hrel.out
    clear hrel
    by_cases hy : ys = []
    · subst hy
      replace HH := Lib.hid HH
      replace HP := Lib.hid HP
      replace HO := Lib.hid HO
      clear hx0 hc hm h0 h1 HE
      go_wp2_with (fail)
      go_end0
      exact ⟨rfl, by rw [← HP.out]; exact HH.out, HO.out⟩
    · obtain ⟨ab, ao, rfl, hne, hx⟩ := hx0.resolve_left hy
      obtain ⟨u, hu⟩ : ∃ u : Nat, h.n % 64 = u := ⟨(h.n % 64).toNat, by omega⟩
      have ht : h.n.tmod 64 = u := by rw [Int.tmod_eq_emod_of_nonneg h0]; exact hu
      have hu64 : u < 64 := by omega
      have hL : 0 < ys.length := List.length_pos_iff.2 hy
      obtain ⟨m, hm'⟩ : ∃ m, m = min (64 - u) ys.length := ⟨_, rfl⟩
      have hmx : m ≤ ys.length := by omega
      have hm64 : m ≤ 64 - u := by omega
      have hmL : (ys.take m).length = m := by rw [List.length_take]; omega
      have HMN := Lib.hid (show (byteVals (ys.take m)).length = Nat.min ys.length (64 - u) by rw [byteVals_length, hmL, hm']; exact Nat.min_comm _ _)
      have HX := Lib.hid hx
      have HHH := Lib.hid (show HashAt wr.drew g h.s h.b h.n from HH)
      have hcell := HH.cellN
      have hsl := slice64at g 8 u hu64
      have HSRC := Lib.hid (show ∀ j v, (byteVals (ys.take m))[j]? = some v → wr.drew.cell? (Addr.add ⟨ab, ao, none⟩ j) = some v from fun j v hv => by
        rw [Addr.add_mid]
        simp only [byteVals, List.getElem?_map, List.getElem?_take] at hv
        split at hv
        · cases hj : ys[j]? with
          | none => rw [hj] at hv; cases hv
          | some x => rw [hj] at hv; cases hv; exact hx j x hj
        · cases hv)
      unfold maxLen at hm
      replace HP := Lib.hid HP
      have HM := Lib.hid hm'
      have HB := Lib.hid (show h.n < 18446744073709551616 from h1)
      have HY := Lib.hid hy
      have HML := Lib.hid hmL
      have HU := Lib.hid hu
      clear hx hx0 HH h1 hm' hy hmL hu
      go_upto_region 2 with (fail)
      go_still_tail 10, (by kernel_rfl)
      refine wpList_copy_own rfl (.tmp 18) (.tmp 19) 39 39 rfl 5 Tryz.underlying39 (by kernel_rfl) g (8 + u) (64 - u) (64 - u) ⟨ab, ao, none⟩ ys.length cap rfl rfl _ 210 HHH.out (byteVals (ys.take m)) HMN.out HSRC.out (by rw [hashCells_size, byteVals_length, HML.out]; omega) (byteVals_one _) ?_
      have HC := Lib.hid (HHH.out.copy u (ys.take m) (by rw [HML.out]; omega))
      have HO2 := Lib.hid ((HO.trans (Only.drew g wr)).trans (Only.setRow wr.drew g ((hashCells h.s h.b h.n).toList.take (8 + u) ++ (byteVals (ys.take m) ++ (hashCells h.s h.b h.n).toList.drop (8 + u + (byteVals (ys.take m)).length))).toArray))
      have HE2 := Lib.hid ((((Only.drew g wr)).trans (Only.setRow wr.drew g ((hashCells h.s h.b h.n).toList.take (8 + u) ++ (byteVals (ys.take m) ++ (hashCells h.s h.b h.n).toList.drop (8 + u + (byteVals (ys.take m)).length))).toArray)).env HE HG.out)
      have HX2 := Lib.hid (show ∀ i x, ys[i]? = some x → (World.setRow wr.drew g ((hashCells h.s h.b h.n).toList.take (8 + u) ++ (byteVals (ys.take m) ++ (hashCells h.s h.b h.n).toList.drop (8 + u + (byteVals (ys.take m)).length))).toArray).cell? ⟨ab, ao + i, none⟩ = some (.int .u8 x) from fun i x hi => (((Only.drew g wr)).trans (Only.setRow wr.drew g _)).cell (HX.out i x hi) hne)
      change wpList _ _ _ _ _ (World.setRow wr.drew g ((hashCells h.s h.b h.n).toList.take (8 + u) ++ (byteVals (ys.take m) ++ (hashCells h.s h.b h.n).toList.drop (8 + u + (byteVals (ys.take m)).length))).toArray)
      generalize World.setRow wr.drew g ((hashCells h.s h.b h.n).toList.take (8 + u) ++ (byteVals (ys.take m) ++ (hashCells h.s h.b h.n).toList.drop (8 + u + (byteVals (ys.take m)).length))).toArray = w2 at *
      rw [show goInt (byteVals (ys.take m)).length = .int .i64 (m : Int) by rw [byteVals_length, HML.out]; rfl]
      clear HHH hcell hsl HSRC HO HE HX ht HMN
      obtain ⟨a', ha'⟩ : ∃ a' : Option Addr, a' = if cap = m then some ⟨ab, ao, none⟩ else some ⟨ab, ao + m, none⟩ := ⟨_, rfl⟩
      have hsl := slice22l ab ao ys.length cap m hmx hc a' ha'
      replace ha' := Lib.hid ha'
      go_upto_region 4 with (fail)
      have hc2 := HC.out.cellN
      have hf2 := HC.out.free 72
      go_upto_region 5 with (fail)
      obtain ⟨N, hN⟩ : ∃ N, N = IntKind.u64.wrap (h.n + m) := ⟨_, rfl⟩
      rw [← hN]
      have HC3 := Lib.hid (HC.out.setN N)
      have HO3 := Lib.hid (HO2.out.trans (Only.setCell w2 ⟨g, 72, none⟩ (.int .u64 N)))
      have HE3 := Lib.hid ((Only.setCell w2 ⟨g, 72, none⟩ (.int .u64 N)).env HE2.out HG.out)
      have HB3 := Lib.hid (BytesAt.drop (g := g) (w := w2.setCell ⟨g, 72, none⟩ (.int .u64 N)) (m := m) hc hm hne (fun i x hi => (Only.setCell w2 ⟨g, 72, none⟩ (.int .u64 N)).cell (HX2.out i x hi) hne) hmx a' ha'.out)
      generalize w2.setCell ⟨g, 72, none⟩ (.int .u64 N) = w3 at *
      clear HC HO2 HE2 HX2 hsl hc2 hf2 ha'
      replace hN := Lib.hid hN
      have hc3 := HC3.out.cellN
      by_cases hf : u + m = 64
      · obtain ⟨hP, hN0, hN1, htest⟩ := put_next_full h ys m u h0 HB.out HU.out HML.out hf hu64 N hN.out
        replace hP := Lib.hid hP
        replace hN1 := Lib.hid hN1
        go_upto_region 6 with (fail)
        have hS : ∀ i, i < 8 → w3.cell? ⟨g, i, none⟩ = some (.int .u32 (h.s i)) := fun i hi => HC3.out.cellS i hi
        have HCC := Lib.hid (show Consts w3.drew from HE3.out.consts)
        obtain ⟨L, hL⟩ : ∃ L, L = lay h.b u (ys.take m) := ⟨_, rfl⟩
        rw [← hL] at HC3 hP
        replace hL := Lib.hid hL
        have hRS := Lib.hid (show w3.drew.rangeAt g 0 (rowOf .u32 8 h.s).toList from HC3.out.rangeS)
        have hRB := Lib.hid (show w3.drew.rangeAt g 8 (rowOf .u8 64 L).toList from HC3.out.rangeB)
        have HCD := Lib.hid (show HashAt w3.drew g h.s L N from HC3.out)
        refine wp_region_any (by kernel_rfl) ?_
        change wpAny _ _ _ _ _ _ _ w3.drew
        have HO34 := Lib.hid (Only.drew g w3)
        generalize w3.drew = w4 at *
        refine wpAny_take (i := 0) (v := .pointer (some ⟨g, 0, none⟩)) rfl (by kernel_rfl) (by kernel_rfl) (by kernel_rfl) (fun _ _ _ h => h) (Or.inl ⟨by rfl, by intro w; go_simp⟩) ?_
        simp only [List.getElem_toArray, List.getElem_cons_zero, Act.put, List.setIfInBounds_toArray, List.set_cons_zero, List.set_cons_succ]
        refine wpAny_take (i := 1) (v := .pointer (some ⟨g, 0, none⟩)) rfl (by kernel_rfl) (by kernel_rfl) (by kernel_rfl) (fun _ _ _ h => h) (Or.inl ⟨by rfl, by intro w; go_simp⟩) ?_
        simp only [List.getElem_toArray, List.getElem_cons_succ, List.getElem_cons_zero, Act.put, List.setIfInBounds_toArray, List.set_cons_zero, List.set_cons_succ]
        refine wpAny_take (i := 2) (v := .pointer (some ⟨g, 0, none⟩)) rfl (by kernel_rfl) (by kernel_rfl) (by kernel_rfl) (fun _ _ _ h => h) (Or.inl ⟨by rfl, by intro w; go_simp⟩) ?_
        simp only [List.getElem_toArray, List.getElem_cons_succ, List.getElem_cons_zero, Act.put, List.setIfInBounds_toArray, List.set_cons_zero, List.set_cons_succ]
        refine wpAny_take (i := 3) (v := .pointer (some ⟨g, 0, none⟩)) rfl (by kernel_rfl) (by kernel_rfl) (by kernel_rfl) (fun _ _ _ h => h) (Or.inl ⟨by rfl, by intro w; go_simp⟩) ?_
        simp only [List.getElem_toArray, List.getElem_cons_succ, List.getElem_cons_zero, Act.put, List.setIfInBounds_toArray, List.set_cons_zero, List.set_cons_succ]
        refine wpAny_take (i := 5) (v := .pointer (some ⟨g, 0, none⟩)) rfl (by kernel_rfl) (by kernel_rfl) (by kernel_rfl) (fun _ _ _ h => h) (Or.inl ⟨by rfl, by intro w; go_simp⟩) ?_
        simp only [List.getElem_toArray, List.getElem_cons_succ, List.getElem_cons_zero, Act.put, List.setIfInBounds_toArray, List.set_cons_zero, List.set_cons_succ]
        refine wpAny_take (i := 6) (v := .pointer (some ⟨g, 0, none⟩)) rfl (by kernel_rfl) (by kernel_rfl) (by kernel_rfl) (fun _ _ _ h => h) (Or.inl ⟨by rfl, by intro w; go_simp⟩) ?_
        simp only [List.getElem_toArray, List.getElem_cons_succ, List.getElem_cons_zero, Act.put, List.setIfInBounds_toArray, List.set_cons_zero, List.set_cons_succ]
        refine wpAny_take (i := 7) (v := .pointer (some ⟨g, 8, none⟩)) rfl (by kernel_rfl) (by kernel_rfl) (by kernel_rfl) (fun _ _ _ h => h) (Or.inl ⟨by rfl, by intro w; go_simp⟩) ?_
        simp only [List.getElem_toArray, List.getElem_cons_succ, List.getElem_cons_zero, Act.put, List.setIfInBounds_toArray, List.set_cons_zero, List.set_cons_succ]
        refine wpAny_ready (rs := [4, 8]) (by kernel_rfl) (by simp) ?_
        refine AllReady.cons rfl (fun K hK => ?_) (AllReady.cons rfl (fun K hK => ?_) AllReady.nil)
        · rw [if_pos (by rfl)]
          refine wp_load_mid 149 (.tmp 42) rfl g 0 rfl _ _ hRS.out Tryz.underlying149 rfl (by rw [(rowOf_list _ _ _).2]; kernel_rfl) ?_; refine hK _ _ ?_; clear hK K
          refine wpAny_ready (rs := [8]) (by kernel_rfl) (by simp) ?_; refine AllReady.cons rfl (fun K hK => ?_) AllReady.nil; rw [if_pos (by rfl)]
          refine wp_load_mid 187 (.tmp 46) rfl g 8 rfl _ _ hRB.out Tryz.underlying187 rfl (by rw [(rowOf_list _ _ _).2]; kernel_rfl) ?_; refine hK _ _ ?_; clear hK K
          try simp only [List.getElem_toArray, List.getElem_cons_succ, List.getElem_cons_zero, Act.put, List.setIfInBounds_toArray, List.set_cons_zero, List.set_cons_succ, Array.toArray_toList]
          refine wpAny_ready (rs := [9]) (by kernel_rfl) (by simp) ?_; refine AllReady.cons rfl (fun K hK => ?_) AllReady.nil; rw [if_pos (by rfl)]
          try simp only [List.getElem_toArray, List.getElem_cons_succ, List.getElem_cons_zero]
          go_simp
          refine (mix_any h.s L _ HCC.out).mono ?_
          rintro e w5 ⟨rfl, HB5⟩
          replace HB5 := Lib.hid HB5
          refine hK _ _ ?_
          clear hK K
          try simp only [List.getElem_toArray, List.getElem_cons_succ, List.getElem_cons_zero, Act.put, List.setIfInBounds_toArray, List.set_cons_zero, List.set_cons_succ, Array.toArray_toList]
          refine wpAny_take (i := 10) (v := .pointer (some ⟨g, 0, none⟩)) rfl (by kernel_rfl) (by kernel_rfl) (by kernel_rfl) (fun _ _ _ h => h) (Or.inl ⟨by rfl, by intro w; go_simp⟩) ?_
          try simp only [List.getElem_toArray, List.getElem_cons_succ, List.getElem_cons_zero, Act.put, List.setIfInBounds_toArray, List.set_cons_zero, List.set_cons_succ]
          refine wpAny_take (i := 11) (v := .pointer (some ⟨g, 0, none⟩)) rfl (by kernel_rfl) (by kernel_rfl) (by kernel_rfl) (fun _ _ _ h => h) (Or.inl ⟨by rfl, by intro w; go_simp⟩) ?_
          try simp only [List.getElem_toArray, List.getElem_cons_succ, List.getElem_cons_zero, Act.put, List.setIfInBounds_toArray, List.set_cons_zero, List.set_cons_succ]
          refine wpAny_ready (rs := [12]) (by kernel_rfl) (by simp) ?_; refine AllReady.cons rfl (fun K hK => ?_) AllReady.nil; rw [if_pos (by rfl)]
          have HC5 := Lib.hid (HCD.out.below HB5.out HCD.out.lt)
          refine wp_store_mid 149 (.tmp 50) (.tmp 48) rfl g 0 (rowOf .u32 8 (mixF h.s L)) rfl rfl HC5.out.thereS (by rw [rowOf_size]; kernel_rfl) (rowOf_one _ _ _) ?_
          refine hK _ _ ?_
          clear hK K
          try simp only [List.getElem_toArray, List.getElem_cons_succ, List.getElem_cons_zero, Act.put]
          refine wpAny_done (by kernel_rfl) ?_ _
          have HC6 := Lib.hid (HC5.out.setSs (mixF h.s L))
          have HO5 : Only g w4 w5 := Only.of_below HB5.out
          have HO6 := Lib.hid (HO5.trans (Only.setCells g (rowOf .u32 8 (mixF h.s L)).toList 0 w5))
          clear HO5
          generalize w5.setCells g 0 (rowOf .u32 8 (mixF h.s L)).toList = w6 at *
          go_wp2_with (fail)
          have HO36 := HO34.out.trans HO6.out
          replace HO36 := Lib.hid HO36
          go_roundw
          case rel => exact ⟨ys.drop m, ⟨mixF h.s L, L, N⟩, HB3.out.only HO36.out, HC6.out, hN0, hN1.out, hP.out.trans HP.out, HO3.out.trans HO36.out, HO36.out.env HE3.out HG.out⟩
          case measure => simp [lenOfV]; omega
        · rw [if_pos (by rfl)]
          refine wp_load_mid 187 (.tmp 46) rfl g 8 rfl _ _ hRB.out Tryz.underlying187 rfl (by rw [(rowOf_list _ _ _).2]; kernel_rfl) ?_; refine hK _ _ ?_; clear hK K
          refine wpAny_ready (rs := [4]) (by kernel_rfl) (by simp) ?_; refine AllReady.cons rfl (fun K hK => ?_) AllReady.nil; rw [if_pos (by rfl)]
          refine wp_load_mid 149 (.tmp 42) rfl g 0 rfl _ _ hRS.out Tryz.underlying149 rfl (by rw [(rowOf_list _ _ _).2]; kernel_rfl) ?_; refine hK _ _ ?_; clear hK K
          try simp only [List.getElem_toArray, List.getElem_cons_succ, List.getElem_cons_zero, Act.put, List.setIfInBounds_toArray, List.set_cons_zero, List.set_cons_succ, Array.toArray_toList]
          refine wpAny_ready (rs := [9]) (by kernel_rfl) (by simp) ?_; refine AllReady.cons rfl (fun K hK => ?_) AllReady.nil; rw [if_pos (by rfl)]
          try simp only [List.getElem_toArray, List.getElem_cons_succ, List.getElem_cons_zero]
          go_simp
          refine (mix_any h.s L _ HCC.out).mono ?_
          rintro e w5 ⟨rfl, HB5⟩
          replace HB5 := Lib.hid HB5
          refine hK _ _ ?_
          clear hK K
          try simp only [List.getElem_toArray, List.getElem_cons_succ, List.getElem_cons_zero, Act.put, List.setIfInBounds_toArray, List.set_cons_zero, List.set_cons_succ, Array.toArray_toList]
          refine wpAny_take (i := 10) (v := .pointer (some ⟨g, 0, none⟩)) rfl (by kernel_rfl) (by kernel_rfl) (by kernel_rfl) (fun _ _ _ h => h) (Or.inl ⟨by rfl, by intro w; go_simp⟩) ?_
          try simp only [List.getElem_toArray, List.getElem_cons_succ, List.getElem_cons_zero, Act.put, List.setIfInBounds_toArray, List.set_cons_zero, List.set_cons_succ]
          refine wpAny_take (i := 11) (v := .pointer (some ⟨g, 0, none⟩)) rfl (by kernel_rfl) (by kernel_rfl) (by kernel_rfl) (fun _ _ _ h => h) (Or.inl ⟨by rfl, by intro w; go_simp⟩) ?_
          try simp only [List.getElem_toArray, List.getElem_cons_succ, List.getElem_cons_zero, Act.put, List.setIfInBounds_toArray, List.set_cons_zero, List.set_cons_succ]
          refine wpAny_ready (rs := [12]) (by kernel_rfl) (by simp) ?_; refine AllReady.cons rfl (fun K hK => ?_) AllReady.nil; rw [if_pos (by rfl)]
          have HC5 := Lib.hid (HCD.out.below HB5.out HCD.out.lt)
          refine wp_store_mid 149 (.tmp 50) (.tmp 48) rfl g 0 (rowOf .u32 8 (mixF h.s L)) rfl rfl HC5.out.thereS (by rw [rowOf_size]; kernel_rfl) (rowOf_one _ _ _) ?_
          refine hK _ _ ?_
          clear hK K
          try simp only [List.getElem_toArray, List.getElem_cons_succ, List.getElem_cons_zero, Act.put]
          refine wpAny_done (by kernel_rfl) ?_ _
          have HC6 := Lib.hid (HC5.out.setSs (mixF h.s L))
          have HO5 : Only g w4 w5 := Only.of_below HB5.out
          have HO6 := Lib.hid (HO5.trans (Only.setCells g (rowOf .u32 8 (mixF h.s L)).toList 0 w5))
          clear HO5
          generalize w5.setCells g 0 (rowOf .u32 8 (mixF h.s L)).toList = w6 at *
          go_wp2_with (fail)
          have HO36 := HO34.out.trans HO6.out
          replace HO36 := Lib.hid HO36
          go_roundw
          case rel => exact ⟨ys.drop m, ⟨mixF h.s L, L, N⟩, HB3.out.only HO36.out, HC6.out, hN0, hN1.out, hP.out.trans HP.out, HO3.out.trans HO36.out, HO36.out.env HE3.out HG.out⟩
          case measure => simp [lenOfV]; omega
      · obtain ⟨hP, hN0, hN1, htest⟩ := put_next h ys m u h0 HB.out HU.out HML.out (by omega) N hN.out
        have hm0 : 0 < m := by have := HM.out; omega
        rw [decide_eq_false (by omega)] at htest
        replace hP := Lib.hid hP
        replace hN1 := Lib.hid hN1
        go_wp2_with (fail)
        go_roundw
        case rel => exact ⟨ys.drop m, ⟨h.s, lay h.b u (ys.take m), N⟩, HB3.out, HC3.out, hN0, hN1.out, hP.out.trans HP.out, HO3.out, HE3.out⟩
        case measure => simp [lenOfV]; omega
end Go.Proofs.YteokgklfljhcaaaGreatDoor

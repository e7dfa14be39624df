/- AvlStays: the walk. -/
import Derived.BigQuiet
import Derived.Test.YtlhfdkkeanchcaaDoorAvOr
import Derived.Test.YtlhfdkkeanchcaaDoorAvPrs
import Derived.Test.YtlhfdkkeanchcaaDoorEq32
namespace Go.Proofs.YtlhfdkkeanchcaaDoor
open Go.RowKit
set_option maxRecDepth 100000
set_option linter.unusedSimpArgs false
set_option linter.unusedVariables false
theorem minL_step (q : Nat) (h : 1 ≤ q) : minL (q + 1) = max (minL (q - 1)) 1 + minL q := by
  obtain ⟨n, rfl⟩ : ∃ n, q = n + 1 := ⟨q - 1, by omega⟩
  rfl
theorem height_small {t : Option AvT} (h : balO t) (hm : manyO t ≤ 120) : heightO t < 12 ∧ (1 ≤ heightO t → minL (heightO t) ≤ manyO t) := by
  cases t with
  | none => exact ⟨by simp [heightO], fun h => by simp [heightO] at h⟩
  | some t =>
    have hb := minL_many t h
    refine ⟨?_, fun _ => hb⟩
    show t.height < 12
    rcases Nat.lt_or_ge t.height 12 with h' | h'
    · exact h'
    · have h1 := minL_mono h'
      have h2 : minL 12 = 233 := by decide
      have h3 : t.many ≤ 120 := hm
      omega
/-- what lies in memory while the tree is turned -/
structure SM (w w' : World) (N : Nat) (p : Option Addr) (t : Option AvT) (v : Value) (u : Option AvT) (g7 : Nat) (R : Nat → Int) (va : Value) (L : List KV) : Prop where
  below : Below w.heap.size w w'
  tree : TreeO w' (.pointer p) t
  new : TreeO w' v u
  root : RowAt w' g7 .u8 32 50 R
  all : KVIn w' va L
theorem SM.call {w w' w2 : World} {N : Nat} {p : Option Addr} {t : Option AvT} {v : Value} {u : Option AvT} {g7 : Nat} {R : Nat → Int} {va : Value} {L : List KV} (m : SM w w' N p t v u g7 R va L) (h : Below w'.heap.size w' w2) : SM w w2 N p t v u g7 R va L :=
  ⟨m.below.trans (h.mono m.below.size), m.tree.below h, m.new.below h, m.root.below h m.root.lt, m.all.below h⟩
theorem SM.turn {w w' w2 : World} {N : Nat} {p : Option Addr} {t : Option AvT} {v v2 : Value} {u u2 : Option AvT} {g7 : Nat} {R : Nat → Int} {va : Value} {L : List KV} (m : SM w w' N p t v u g7 R va L) (h : Below w'.heap.size w' w2) (hu : TreeO w2 v2 u2) : SM w w2 N p t v2 u2 g7 R va L :=
  ⟨m.below.trans (h.mono m.below.size), m.tree.below h, hu, m.root.below h m.root.lt, m.all.below h⟩
set_option maxRecDepth 1000000 in
set_option maxHeartbeats 8000000 in
theorem lstays_any (va vb : Value) (ts ms : List AvA) (N : Nat) (w : World) (he : Env w) (hx : AvActs w va ts) (hk : ∀ t ∈ ts, t.kOk) (hs : ∀ t ∈ ts, t.key.size + t.val.size ≤ N) (hy : AvActs w vb ms) (hk2 : ∀ t ∈ ms, t.kOk) (hs2 : ∀ t ∈ ms, t.key.size + t.val.size ≤ N) (hN : N ≤ 1048576) :
    Calls Tryd.prog 4 #[va, vb] w fun e w' => e = .returned (.bool true) ∧ Below w.heap.size w w' := by
  have HGR := Lib.hid (grown_any va ts N w he hx hk hs hN)
  have HE := Lib.hid he
  have HNB := Lib.hid hN
  have HY := Lib.hid hy
  have HS := Lib.hid hs2
  obtain ⟨a, cap, rfl⟩ := hy.len
  have hlen : ms.length ≤ maxLen := by obtain ⟨_, _, e, _, hm, _⟩ := hy; exact hm
  unfold maxLen at hlen
  clear he hx hk hs hN hy hk2 hs2
  unfold GrPost at HGR
  go_enter Tryd.func4, Tryd.ntmps4
  go_upto_region 2 with (first
    | (go_at_call 8; (with_reducible refine HGR.out.mono ?_); rintro e w1 ⟨v, cs, t, rfl, ht, hr, hg, hb⟩; have HT := Lib.hid ht; have HG := Lib.hid hg; have HBT := Lib.hid hb; have csZ := Lib.hid hr.size; have csO := Lib.hid hr.one; clear ht hr hg hb)
    | (refine wpList_store_row rfl 28 (.tmp 6) (.tmp 18) rfl w1.heap.size cs rfl rfl 28 _ (heap_alloc_new _ _) (by rw [csZ.out]; kernel_rfl) (by rw [csZ.out]; rfl) csO.out ?_; rw [World.setRow_alloc_new]))
  replace HT := Lib.hid (HT.out.below (below_alloc w1 (.cells cs 28)))
  replace HBT := Lib.hid (HBT.out.trans ((below_alloc w1 (.cells cs 28)).mono HBT.out.size))
  generalize w1.alloc (.cells cs 28) = w2 at *
  obtain ⟨p, rfl⟩ := HT.out.ptr
  have hsrt : Srt (pairsO t) := HG.out.srt
  have hmany : manyO t ≤ 60 := HG.out.many
  obtain ⟨L, hL⟩ : ∃ L, L = pairsO t := ⟨_, rfl⟩
  have HRF := Lib.hid (show ∀ w, TreeO w (.pointer p) t → Calls Tryd.prog 24 #[.pointer p, .string { data := #[] }, .string { data := #[] }] w fun e w' => ∃ v, e = .returned v ∧ KVIn w' v L ∧ Below w.heap.size w w' from fun w h => by
    have := range_kv p t eBA eBA w h hsrt (by omega)
    rw [range_full hsrt, ← hL] at this; exact this)
  have HRT := Lib.hid (fun w h1 h2 => root_any (.pointer p) t w h1 h2)
  obtain ⟨R, hR⟩ : ∃ R, R = rootO t := ⟨_, rfl⟩
  rw [← hR] at HRT
  clear hsrt hmany hL hR
  go_upto_region 3 with (first
    | (go_at_call 16; (with_reducible refine (HRT.out _ (HE.out.below HBT.out HE.out.lt) HT.out).mono ?_); rintro e w3 ⟨rfl, hb⟩; replace HT := Lib.hid (HT.out.below hb); replace HBT := Lib.hid (HBT.out.trans (hb.mono HBT.out.size)); clear hb)
    | (go_at_call 24; (with_reducible refine (HRF.out _ HT.out).mono ?_); rintro e w4 ⟨v, rfl, hkv, hb⟩; have HX := Lib.hid hkv; replace HT := Lib.hid (HT.out.below hb); replace HBT := Lib.hid (HBT.out.trans (hb.mono HBT.out.size)); clear hkv hb)
    | (refine wpList_store_row rfl 50 (.tmp 7) (.tmp 20) rfl w4.heap.size (rowOf .u8 32 R) rfl rfl 50 _ (heap_alloc_new _ _) (by rw [rowOf_size]; kernel_rfl) (by rw [rowOf_size]; rfl) (rowOf_one _ _ _) ?_; rw [World.setRow_alloc_new]))
  have M := Lib.hid (show SM w (w4.alloc (.cells (rowOf .u8 32 R) 50)) N p t (.pointer p) t w4.heap.size R v L from ⟨HBT.out.trans ((below_alloc w4 _).mono HBT.out.size), HT.out.below (below_alloc w4 _), HT.out.below (below_alloc w4 _), RowAt.new w4 .u8 32 50 R, HX.out.below (below_alloc w4 _)⟩)
  obtain ⟨g7, hg7⟩ : ∃ g, g = w4.heap.size := ⟨_, rfl⟩
  have HG7 := Lib.hid (show w.heap.size ≤ g7 by rw [hg7]; exact HBT.out.size)
  rw [← hg7] at M ⊢
  have HGT := HG
  clear hg7 HX HT HBT
  generalize w4.alloc (.cells (rowOf .u8 32 R) 50) = w5 at *
  have G := Lib.hid (show GT N (60 + 0) t from HG.out)
  clear HG
  go_wp2_with (fail)
  go_loopw [9, 10] (fun v9 y wr => ∃ (k : Nat) (u : Option AvT), k ≤ 60 ∧ k ≤ ms.length ∧ y = .int .i64 (k : Int) ∧ Hid (SM w wr N p t v9 u g7 R v L) ∧ Hid (GT N (60 + k) u)) (fun _ y _ => 60 - (intOf y).toNat)
  case atStart => exact ⟨0, t, by omega, by omega, rfl, M, G⟩
  case round =>
    clear M G
    clear w5
    obtain ⟨k, u, hk60, hkl, rfl, M, G⟩ := hrel
    have HTB := Lib.hid (show manyO u ≤ 120 from Nat.le_trans G.out.many (by omega))
    by_cases hlt : k < ms.length ∧ k < 60
    · obtain ⟨hlt1, hlt2⟩ := hlt
      obtain ⟨x, hx⟩ : ∃ x, ms[k]? = some x := ⟨ms[k], List.getElem?_eq_getElem hlt1⟩
      obtain ⟨b, off, rfl, hbl, p0, p1, p2⟩ := HY.out.at k x hx
      have HSZ0 := HS.out x (List.mem_of_getElem? hx)
      obtain ⟨kind, key, val⟩ := x
      simp only at p0 p1 p2 HSZ0
      have HSZ := Lib.hid (show key.size + val.size ≤ 140737488351232 by have := HNB.out; omega)
      replace HSZ0 := Lib.hid HSZ0
      have HAT := Lib.hid (fun (w' : World) (hb : Below w.heap.size w w') => (⟨(hb.cell (p := ⟨b, off + k * 3, none⟩) hbl).trans p0, (hb.cell (p := ⟨b, off + k * 3 + 1, none⟩) hbl).trans p1, (hb.cell (p := ⟨b, off + k * 3 + 2, none⟩) hbl).trans p2⟩ : w'.cell? ⟨b, off + k * 3, none⟩ = some (.int .i64 kind) ∧ w'.cell? ⟨b, off + k * 3 + 1, none⟩ = some (.string key) ∧ w'.cell? ⟨b, off + k * 3 + 2, none⟩ = some (.string val)))
      obtain ⟨q, hq4, hqe⟩ := avsmall_mod kind 4 (by decide) (by decide)
      simp only [Int.cast_ofNat_Int] at hqe
      clear hx p0 p1 p2 hbl
      by_cases hq : q = 3
      · have hq3 : ((q : Int) == 3) = true := by rw [beq_iff_eq]; omega
        have c0 := (HAT.out wr M.out.below).1
        have c1 := (HAT.out wr M.out.below).2.1
        clear hq4 hq
        go_upto_region 10 with (go_at_call 31; (with_reducible refine (drop_any u9 u key _ (HE.out.below M.out.below HE.out.lt) M.out.new (by have := HTB.out; omega)).mono ?_); rintro e w6 ⟨v5, rfl, ht, hb⟩; replace M := Lib.hid (M.out.turn hb ht); clear ht hb)
        clear c0 c1 hqe hq3
        replace G := Lib.hid (show GT N (60 + (k + 1)) (dropO u key) from (G.out.drop key).mono (by omega))
        obtain ⟨hh12, hhm⟩ := height_small (show balO _ from G.out.bal) (by have := G.out.many; omega)
        obtain ⟨H, hH⟩ : ∃ H, H = heightO (dropO u key) := ⟨_, rfl⟩
        obtain ⟨mm, hmm⟩ : ∃ m, m = manyO (dropO u key) := ⟨_, rfl⟩
        have HHE := Lib.hid (show Calls Tryd.prog 19 #[v5] w6 fun e w' => e = .returned (.int .i64 (H : Int)) ∧ w6 = w' from by rw [hH]; exact height_any _ M.out.new)
        have HLE := Lib.hid (show Calls Tryd.prog 18 #[v5] w6 fun e w' => e = .returned (.int .i64 (mm : Int)) ∧ w6 = w' from by rw [hmm]; exact len_any _ M.out.new)
        rw [← hH] at hh12 hhm
        rw [← hmm] at hhm
        clear hH hmm
        go_wp2_with (fail)
        go_loop [11, 12, 13] (fun x y z => ∃ q : Nat, 1 ≤ q ∧ (q ≤ H ∨ q = 1) ∧ x = .int .i64 ((minL (q - 1) : Nat) : Int) ∧ y = .int .i64 ((minL q : Nat) : Int) ∧ z = .int .i64 (q : Int)) (fun _ _ z => 100 - (intOf z).toNat)
        case atStart => exact ⟨1, Nat.le_refl _, .inr rfl, rfl, rfl, rfl⟩
        case round =>
          obtain ⟨q, hq1, hqH, rfl, rfl, rfl⟩ := hrel
          have hq12 : q < 12 := by omega
          have hb1 : minL (q - 1) ≤ 233 := minL_mono (n := 12) (by omega)
          have hb2 : minL q ≤ 233 := minL_mono (n := 12) (by omega)
          have hst := minL_step q hq1
          by_cases hlt : q < H
          · have hI : (q : Int) < (H : Int) := by omega
            have hI90 : (q : Int) < 90 := by omega
            obtain ⟨x, hx⟩ : ∃ x, x = minL (q - 1) := ⟨_, rfl⟩
            obtain ⟨y, hy⟩ : ∃ y, y = minL q := ⟨_, rfl⟩
            rw [← hx] at hst hb1 ⊢
            rw [← hy] at hst hb2 ⊢
            have hmx : max (x : Int) 1 = ((max x 1 : Nat) : Int) := by omega
            go_wp2_with (first
              | (go_at_call 19; (with_reducible refine HHE.out.mono ?_); rintro e w' ⟨rfl, rfl⟩))
            go_round
            case rel => exact ⟨q + 1, by omega, .inl (by omega), by rw [show q + 1 - 1 = q by omega], by rw [hst]; go_num, by go_num⟩
            case measure => simp [intOf]; omega
          · by_cases hH : 1 < H
            · obtain rfl : q = H := by omega
              have hhm2 : minL q ≤ mm := hhm (by omega)
              obtain ⟨y, hy⟩ : ∃ y, y = minL q := ⟨_, rfl⟩
              rw [← hy] at hhm2 ⊢
              have hI : ¬ (q : Int) < (q : Int) := by omega
              have hI1 : (1 : Int) < (q : Int) := by omega
              have hI2 : ¬ (mm : Int) < (y : Int) := by omega
              clear hhm hst hb1 hb2 hy
              go_wp2_with (first
                | (go_at_call 19; (with_reducible refine HHE.out.mono ?_); rintro e w' ⟨rfl, rfl⟩)
                | (go_at_call 18; (with_reducible refine HLE.out.mono ?_); rintro e w' ⟨rfl, rfl⟩))
              go_roundw
              case rel => exact ⟨k + 1, dropO u key, by omega, by omega, by go_num, M, G⟩
              case measure => simp [intOf]; omega
            · have hI : ¬ (q : Int) < (H : Int) := by omega
              have hI1 : ¬ (1 : Int) < (H : Int) := by omega
              obtain ⟨y, hy⟩ : ∃ y, y = minL q := ⟨_, rfl⟩
              rw [← hy]
              clear hhm hst hb1 hb2 hy
              go_wp2_with (first
                | (go_at_call 19; (with_reducible refine HHE.out.mono ?_); rintro e w' ⟨rfl, rfl⟩))
              go_roundw
              case rel => exact ⟨k + 1, dropO u key, by omega, by omega, by go_num, M, G⟩
              case measure => simp [intOf]; omega
      · have hq3 : ((q : Int) == 3) = false := by rw [beq_eq_false_iff_ne]; omega
        have c0 := (HAT.out wr M.out.below).1
        clear hq4 hq
        go_upto_region 9 with (fail)
        clear c0 hqe hq3
        refine wp_region_T (fun w' => w'.cell? ⟨b, off + k * 3 + 1, none⟩ = some (.string key) ∧ w'.cell? ⟨b, off + k * 3 + 2, none⟩ = some (.string val)) [3, 4, 5, 8, 9, 10] (by kernel_rfl) ?_
        replace M := Lib.hid (M.out.call (Below.refl _ _).drew)
        generalize wr.drew = w5 at *
        refine anyT_takeY (i := 0) (v := u9) rfl (by kernel_rfl) (by kernel_rfl) (by kernel_rfl) (fun _ _ _ h => h) (by kernel_rfl) (Or.inl ⟨by rfl, by intro w; go_simp⟩) ?_
        try simp only [List.getElem_toArray, List.getElem_cons_succ, List.getElem_cons_zero, Act.put, List.setIfInBounds_toArray, List.set_cons_zero, List.set_cons_succ]
        refine anyT_takeY (i := 1) (v := .slice (some ⟨b, off, none⟩) ms.length cap) rfl (by kernel_rfl) (by kernel_rfl) (by kernel_rfl) (fun _ _ _ h => h) (by kernel_rfl) (Or.inl ⟨by rfl, by intro w; go_simp⟩) ?_
        try simp only [List.getElem_toArray, List.getElem_cons_succ, List.getElem_cons_zero, Act.put, List.setIfInBounds_toArray, List.set_cons_zero, List.set_cons_succ]
        refine anyT_takeY (i := 2) (v := .int .i64 (k : Int)) rfl (by kernel_rfl) (by kernel_rfl) (by kernel_rfl) (fun _ _ _ h => h) (by kernel_rfl) (Or.inl ⟨by rfl, by intro w; go_simp⟩) ?_
        try simp only [List.getElem_toArray, List.getElem_cons_succ, List.getElem_cons_zero, Act.put, List.setIfInBounds_toArray, List.set_cons_zero, List.set_cons_succ]
        refine anyT_takeY (i := 6) (v := .slice (some ⟨b, off, none⟩) ms.length cap) rfl (by kernel_rfl) (by kernel_rfl) (by kernel_rfl) (fun _ _ _ h => h) (by kernel_rfl) (Or.inl ⟨by rfl, by intro w; go_simp⟩) ?_
        try simp only [List.getElem_toArray, List.getElem_cons_succ, List.getElem_cons_zero, Act.put, List.setIfInBounds_toArray, List.set_cons_zero, List.set_cons_succ]
        refine anyT_takeY (i := 7) (v := .int .i64 (k : Int)) rfl (by kernel_rfl) (by kernel_rfl) (by kernel_rfl) (fun _ _ _ h => h) (by kernel_rfl) (Or.inl ⟨by rfl, by intro w; go_simp⟩) ?_
        try simp only [List.getElem_toArray, List.getElem_cons_succ, List.getElem_cons_zero, Act.put, List.setIfInBounds_toArray, List.set_cons_zero, List.set_cons_succ]
        refine anyT_take [4, 5, 11, 12] (i := 3) (v := .pointer (some ⟨b, off + k * 3, none⟩)) rfl (by kernel_rfl) (by kernel_rfl) (by kernel_rfl) (fun _ _ _ h => h) (by kernel_rfl) (Or.inl ⟨by rfl, fun w' _ => by go_simp⟩) ⟨(HAT.out _ M.out.below).2.1, (HAT.out _ M.out.below).2.2⟩ ?_
        try simp only [List.getElem_toArray, List.getElem_cons_succ, List.getElem_cons_zero, Act.put, List.setIfInBounds_toArray, List.set_cons_zero, List.set_cons_succ]
        refine anyT_take [5, 11, 12] (i := 4) (v := .pointer (some ⟨b, off + k * 3 + 1, none⟩)) rfl (by kernel_rfl) (by kernel_rfl) (by kernel_rfl) (fun _ _ _ h => h) (by kernel_rfl) (Or.inl ⟨by rfl, fun w' _ => by go_simp⟩) ⟨(HAT.out _ M.out.below).2.1, (HAT.out _ M.out.below).2.2⟩ ?_
        try simp only [List.getElem_toArray, List.getElem_cons_succ, List.getElem_cons_zero, Act.put, List.setIfInBounds_toArray, List.set_cons_zero, List.set_cons_succ]
        refine anyT_take [9, 10, 11, 12] (i := 8) (v := .pointer (some ⟨b, off + k * 3, none⟩)) rfl (by kernel_rfl) (by kernel_rfl) (by kernel_rfl) (fun _ _ _ h => h) (by kernel_rfl) (Or.inl ⟨by rfl, fun w' _ => by go_simp⟩) ⟨(HAT.out _ M.out.below).2.1, (HAT.out _ M.out.below).2.2⟩ ?_
        try simp only [List.getElem_toArray, List.getElem_cons_succ, List.getElem_cons_zero, Act.put, List.setIfInBounds_toArray, List.set_cons_zero, List.set_cons_succ]
        refine anyT_take [10, 11, 12] (i := 9) (v := .pointer (some ⟨b, off + k * 3 + 2, none⟩)) rfl (by kernel_rfl) (by kernel_rfl) (by kernel_rfl) (fun _ _ _ h => h) (by kernel_rfl) (Or.inl ⟨by rfl, fun w' _ => by go_simp⟩) ⟨(HAT.out _ M.out.below).2.1, (HAT.out _ M.out.below).2.2⟩ ?_
        try simp only [List.getElem_toArray, List.getElem_cons_succ, List.getElem_cons_zero, Act.put, List.setIfInBounds_toArray, List.set_cons_zero, List.set_cons_succ]
        refine anyT_take [11, 12] (i := 5) (v := .string key) rfl (by kernel_rfl) (by kernel_rfl) (by kernel_rfl) (fun _ _ _ h => h) (by kernel_rfl) (Or.inl ⟨by rfl, fun w' hS => by have c := hS.1; go_simp⟩) ⟨(HAT.out _ M.out.below).2.1, (HAT.out _ M.out.below).2.2⟩ ?_
        try simp only [List.getElem_toArray, List.getElem_cons_succ, List.getElem_cons_zero, Act.put, List.setIfInBounds_toArray, List.set_cons_zero, List.set_cons_succ]
        refine anyT_take [11, 12] (i := 10) (v := .string val) rfl (by kernel_rfl) (by kernel_rfl) (by kernel_rfl) (fun _ _ _ h => h) (by kernel_rfl) (Or.inl ⟨by rfl, fun w' hS => by have c := hS.2; go_simp⟩) ⟨(HAT.out _ M.out.below).2.1, (HAT.out _ M.out.below).2.2⟩ ?_
        try simp only [List.getElem_toArray, List.getElem_cons_succ, List.getElem_cons_zero, Act.put, List.setIfInBounds_toArray, List.set_cons_zero, List.set_cons_succ]
        refine anyT_one (i := 11) (by kernel_rfl) rfl (fun K hK => ?_)
        rw [if_pos (by rfl)]
        try simp only [List.getElem_toArray, List.getElem_cons_succ, List.getElem_cons_zero]
        (go_simp; refine (set_any u9 u key val _ (HE.out.below M.out.below HE.out.lt) M.out.new HSZ.out (by have := HTB.out; omega)).mono ?_; rintro e w6 ⟨g6, rfl, ht, hb⟩; replace M := Lib.hid (M.out.turn hb (TreeAt.toO ht)); clear ht hb)
        refine hK _ _ (not_mem rfl) ?_
        clear hK K
        try simp only [List.getElem_toArray, List.getElem_cons_succ, List.getElem_cons_zero, Act.put, List.setIfInBounds_toArray, List.set_cons_zero, List.set_cons_succ]
        refine anyT_takeY (i := 12) (v := .pointer (some ⟨g6, 0, none⟩)) rfl (by kernel_rfl) (by kernel_rfl) (by kernel_rfl) (fun _ _ _ h => h) (by kernel_rfl) (Or.inl ⟨by rfl, by intro w; go_simp⟩) ?_
        try simp only [List.getElem_toArray, List.getElem_cons_succ, List.getElem_cons_zero, Act.put, List.setIfInBounds_toArray, List.set_cons_zero, List.set_cons_succ]
        refine anyT_done (by kernel_rfl) ?_ _
        replace G := Lib.hid (show GT N (60 + (k + 1)) (some (setO u key val)) from G.out.set key val HSZ0.out)
        obtain ⟨hh12, hhm⟩ := height_small (show balO _ from G.out.bal) (by have := G.out.many; omega)
        obtain ⟨H, hH⟩ : ∃ H, H = heightO (some (setO u key val)) := ⟨_, rfl⟩
        obtain ⟨mm, hmm⟩ : ∃ m, m = manyO (some (setO u key val)) := ⟨_, rfl⟩
        have HHE := Lib.hid (show Calls Tryd.prog 19 #[Value.pointer (some ⟨g6, 0, none⟩)] w6 fun e w' => e = .returned (.int .i64 (H : Int)) ∧ w6 = w' from by rw [hH]; exact height_any _ M.out.new)
        have HLE := Lib.hid (show Calls Tryd.prog 18 #[Value.pointer (some ⟨g6, 0, none⟩)] w6 fun e w' => e = .returned (.int .i64 (mm : Int)) ∧ w6 = w' from by rw [hmm]; exact len_any _ M.out.new)
        rw [← hH] at hh12 hhm
        rw [← hmm] at hhm
        clear hH hmm
        go_wp2_with (fail)
        go_loop [11, 12, 13] (fun x y z => ∃ q : Nat, 1 ≤ q ∧ (q ≤ H ∨ q = 1) ∧ x = .int .i64 ((minL (q - 1) : Nat) : Int) ∧ y = .int .i64 ((minL q : Nat) : Int) ∧ z = .int .i64 (q : Int)) (fun _ _ z => 100 - (intOf z).toNat)
        case atStart => exact ⟨1, Nat.le_refl _, .inr rfl, rfl, rfl, rfl⟩
        case round =>
          obtain ⟨q, hq1, hqH, rfl, rfl, rfl⟩ := hrel
          have hq12 : q < 12 := by omega
          have hb1 : minL (q - 1) ≤ 233 := minL_mono (n := 12) (by omega)
          have hb2 : minL q ≤ 233 := minL_mono (n := 12) (by omega)
          have hst := minL_step q hq1
          by_cases hlt : q < H
          · have hI : (q : Int) < (H : Int) := by omega
            have hI90 : (q : Int) < 90 := by omega
            obtain ⟨x, hx⟩ : ∃ x, x = minL (q - 1) := ⟨_, rfl⟩
            obtain ⟨y, hy⟩ : ∃ y, y = minL q := ⟨_, rfl⟩
            rw [← hx] at hst hb1 ⊢
            rw [← hy] at hst hb2 ⊢
            have hmx : max (x : Int) 1 = ((max x 1 : Nat) : Int) := by omega
            go_wp2_with (first
              | (go_at_call 19; (with_reducible refine HHE.out.mono ?_); rintro e w' ⟨rfl, rfl⟩))
            go_round
            case rel => exact ⟨q + 1, by omega, .inl (by omega), by rw [show q + 1 - 1 = q by omega], by rw [hst]; go_num, by go_num⟩
            case measure => simp [intOf]; omega
          · by_cases hH : 1 < H
            · obtain rfl : q = H := by omega
              have hhm2 : minL q ≤ mm := hhm (by omega)
              obtain ⟨y, hy⟩ : ∃ y, y = minL q := ⟨_, rfl⟩
              rw [← hy] at hhm2 ⊢
              have hI : ¬ (q : Int) < (q : Int) := by omega
              have hI1 : (1 : Int) < (q : Int) := by omega
              have hI2 : ¬ (mm : Int) < (y : Int) := by omega
              clear hhm hst hb1 hb2 hy
              go_wp2_with (first
                | (go_at_call 19; (with_reducible refine HHE.out.mono ?_); rintro e w' ⟨rfl, rfl⟩)
                | (go_at_call 18; (with_reducible refine HLE.out.mono ?_); rintro e w' ⟨rfl, rfl⟩))
              go_roundw
              case rel => exact ⟨k + 1, some (setO u key val), by omega, by omega, by go_num, M, G⟩
              case measure => simp [intOf]; omega
            · have hI : ¬ (q : Int) < (H : Int) := by omega
              have hI1 : ¬ (1 : Int) < (H : Int) := by omega
              obtain ⟨y, hy⟩ : ∃ y, y = minL q := ⟨_, rfl⟩
              rw [← hy]
              clear hhm hst hb1 hb2 hy
              go_wp2_with (first
                | (go_at_call 19; (with_reducible refine HHE.out.mono ?_); rintro e w' ⟨rfl, rfl⟩))
              go_roundw
              case rel => exact ⟨k + 1, some (setO u key val), by omega, by omega, by go_num, M, G⟩
              case measure => simp [intOf]; omega
    · replace G := Lib.hid (show k ≤ 120 by omega)
      by_cases hlt1 : k < ms.length
      · obtain rfl : k = 60 := by omega
        go_upto_region 17 with (fail)
        refine wp_region_T (fun w' => RowAt w' g7 .u8 32 50 R) [1, 2] (by kernel_rfl) ?_
        replace M := Lib.hid (M.out.call (Below.refl _ _).drew)
        generalize wr.drew = w5 at *
        refine anyT_takeY (i := 0) (v := (.pointer p)) rfl (by kernel_rfl) (by kernel_rfl) (by kernel_rfl) (fun _ _ _ h => h) (by kernel_rfl) (Or.inl ⟨by rfl, by intro w; go_simp⟩) ?_
        try simp only [List.getElem_toArray, List.getElem_cons_succ, List.getElem_cons_zero, Act.put, List.setIfInBounds_toArray, List.set_cons_zero, List.set_cons_succ]
        refine anyT_take [3, 4, 5, 6, 7, 8, 9, 10, 11, 12, 13] (i := 2) (v := .agg (rowOf .u8 32 R)) rfl (by kernel_rfl) (by kernel_rfl) (by kernel_rfl) (fun _ _ _ h => h) (by kernel_rfl) (row_yields (by rfl) 50 (.tmp 7) rfl g7 rfl .u8 32 R _ (fun _ h => h) Tryd.underlying50 rfl (by kernel_rfl)) M.out.root ?_
        try simp only [List.getElem_toArray, List.getElem_cons_succ, List.getElem_cons_zero, Act.put, List.setIfInBounds_toArray, List.set_cons_zero, List.set_cons_succ]
        refine anyT_one (i := 1) (by kernel_rfl) rfl (fun K hK => ?_)
        rw [if_pos (by rfl)]
        try simp only [List.getElem_toArray, List.getElem_cons_succ, List.getElem_cons_zero]
        (go_simp; refine (HRT.out _ (HE.out.below M.out.below HE.out.lt) M.out.tree).mono ?_; rintro e w7 ⟨rfl, hb⟩; replace M := Lib.hid (M.out.call hb); clear hb)
        refine hK _ _ (fun _ => M.out.root) ?_
        clear hK K
        try simp only [List.getElem_toArray, List.getElem_cons_succ, List.getElem_cons_zero, Act.put, List.setIfInBounds_toArray, List.set_cons_zero, List.set_cons_succ]
        refine anyT_takeY (i := 3) (v := .bool true) rfl (by kernel_rfl) (by kernel_rfl) (by kernel_rfl) (fun _ _ _ h => h) (by kernel_rfl) (Or.inl ⟨by rfl, by intro w; have h := eqIn32_self R w; go_simp⟩) ?_
        try simp only [List.getElem_toArray, List.getElem_cons_succ, List.getElem_cons_zero, Act.put, List.setIfInBounds_toArray, List.set_cons_zero, List.set_cons_succ]
        refine anyT_takeY (i := 4) (v := .bool true) rfl (by kernel_rfl) (by kernel_rfl) (by kernel_rfl) (fun _ _ _ h => h) (by kernel_rfl) (Or.inl ⟨by rfl, by intro w; go_simp⟩) ?_
        try simp only [List.getElem_toArray, List.getElem_cons_succ, List.getElem_cons_zero, Act.put, List.setIfInBounds_toArray, List.set_cons_zero, List.set_cons_succ]
        refine anyT_takeY (i := 5) (v := (.pointer p)) rfl (by kernel_rfl) (by kernel_rfl) (by kernel_rfl) (fun _ _ _ h => h) (by kernel_rfl) (Or.inl ⟨by rfl, by intro w; go_simp⟩) ?_
        try simp only [List.getElem_toArray, List.getElem_cons_succ, List.getElem_cons_zero, Act.put, List.setIfInBounds_toArray, List.set_cons_zero, List.set_cons_succ]
        refine anyT_takeY (i := 7) (v := v) rfl (by kernel_rfl) (by kernel_rfl) (by kernel_rfl) (fun _ _ _ h => h) (by kernel_rfl) (Or.inl ⟨by rfl, by intro w; go_simp⟩) ?_
        try simp only [List.getElem_toArray, List.getElem_cons_succ, List.getElem_cons_zero, Act.put, List.setIfInBounds_toArray, List.set_cons_zero, List.set_cons_succ]
        refine anyT_one (i := 6) (by kernel_rfl) rfl (fun K hK => ?_)
        rw [if_pos (by rfl)]
        try simp only [List.getElem_toArray, List.getElem_cons_succ, List.getElem_cons_zero]
        (go_simp; refine (HRF.out _ M.out.tree).mono ?_; rintro e w8 ⟨v8, rfl, hkv, hb⟩; have HX8 := Lib.hid hkv; clear hkv; replace M := Lib.hid (M.out.call hb); clear hb)
        refine hK _ _ (not_mem rfl) ?_
        clear hK K
        try simp only [List.getElem_toArray, List.getElem_cons_succ, List.getElem_cons_zero, Act.put, List.setIfInBounds_toArray, List.set_cons_zero, List.set_cons_succ]
        refine anyT_one (i := 8) (by kernel_rfl) rfl (fun K hK => ?_)
        rw [if_pos (by rfl)]
        try simp only [List.getElem_toArray, List.getElem_cons_succ, List.getElem_cons_zero]
        (go_simp; refine (pairs_same v8 v L _ HX8.out M.out.all).mono ?_; rintro e w9 ⟨rfl, hb⟩; replace M := Lib.hid (M.out.call hb); clear hb)
        refine hK _ _ (not_mem rfl) ?_
        clear hK K
        try simp only [List.getElem_toArray, List.getElem_cons_succ, List.getElem_cons_zero, Act.put, List.setIfInBounds_toArray, List.set_cons_zero, List.set_cons_succ]
        refine anyT_takeY (i := 9) (v := .bool true) rfl (by kernel_rfl) (by kernel_rfl) (by kernel_rfl) (fun _ _ _ h => h) (by kernel_rfl) (Or.inl ⟨by rfl, by intro w; go_simp⟩) ?_
        try simp only [List.getElem_toArray, List.getElem_cons_succ, List.getElem_cons_zero, Act.put, List.setIfInBounds_toArray, List.set_cons_zero, List.set_cons_succ]
        refine anyT_takeY (i := 10) (v := .bool true) rfl (by kernel_rfl) (by kernel_rfl) (by kernel_rfl) (fun _ _ _ h => h) (by kernel_rfl) (Or.inl ⟨by rfl, by intro w; go_simp⟩) ?_
        try simp only [List.getElem_toArray, List.getElem_cons_succ, List.getElem_cons_zero, Act.put, List.setIfInBounds_toArray, List.set_cons_zero, List.set_cons_succ]
        refine anyT_one (i := 11) (by kernel_rfl) rfl (fun K hK => ?_)
        rw [if_pos (by rfl)]
        try simp only [List.getElem_toArray, List.getElem_cons_succ, List.getElem_cons_zero]
        (go_simp; refine (avsure_any _ (HE.out.below M.out.below HE.out.lt)).mono ?_; rintro e w10 ⟨rfl, hb⟩; replace M := Lib.hid (M.out.call hb); clear hb)
        refine hK _ _ (not_mem rfl) ?_
        clear hK K
        try simp only [List.getElem_toArray, List.getElem_cons_succ, List.getElem_cons_zero, Act.put, List.setIfInBounds_toArray, List.set_cons_zero, List.set_cons_succ]
        refine anyT_takeY (i := 12) (v := .bool true) rfl (by kernel_rfl) (by kernel_rfl) (by kernel_rfl) (fun _ _ _ h => h) (by kernel_rfl) (Or.inl ⟨by rfl, by intro w; go_simp⟩) ?_
        try simp only [List.getElem_toArray, List.getElem_cons_succ, List.getElem_cons_zero, Act.put, List.setIfInBounds_toArray, List.set_cons_zero, List.set_cons_succ]
        refine anyT_takeY (i := 13) (v := .bool true) rfl (by kernel_rfl) (by kernel_rfl) (by kernel_rfl) (fun _ _ _ h => h) (by kernel_rfl) (Or.inl ⟨by rfl, by intro w; go_simp⟩) ?_
        try simp only [List.getElem_toArray, List.getElem_cons_succ, List.getElem_cons_zero, Act.put, List.setIfInBounds_toArray, List.set_cons_zero, List.set_cons_succ]
        refine anyT_done (by kernel_rfl) ?_ _
        go_wp2_with (fail)
        go_ret
        exact ⟨rfl, M.out.below⟩
      · obtain rfl : k = ms.length := by omega
        go_upto_region 17 with (fail)
        refine wp_region_T (fun w' => RowAt w' g7 .u8 32 50 R) [1, 2] (by kernel_rfl) ?_
        replace M := Lib.hid (M.out.call (Below.refl _ _).drew)
        generalize wr.drew = w5 at *
        refine anyT_takeY (i := 0) (v := (.pointer p)) rfl (by kernel_rfl) (by kernel_rfl) (by kernel_rfl) (fun _ _ _ h => h) (by kernel_rfl) (Or.inl ⟨by rfl, by intro w; go_simp⟩) ?_
        try simp only [List.getElem_toArray, List.getElem_cons_succ, List.getElem_cons_zero, Act.put, List.setIfInBounds_toArray, List.set_cons_zero, List.set_cons_succ]
        refine anyT_take [3, 4, 5, 6, 7, 8, 9, 10, 11, 12, 13] (i := 2) (v := .agg (rowOf .u8 32 R)) rfl (by kernel_rfl) (by kernel_rfl) (by kernel_rfl) (fun _ _ _ h => h) (by kernel_rfl) (row_yields (by rfl) 50 (.tmp 7) rfl g7 rfl .u8 32 R _ (fun _ h => h) Tryd.underlying50 rfl (by kernel_rfl)) M.out.root ?_
        try simp only [List.getElem_toArray, List.getElem_cons_succ, List.getElem_cons_zero, Act.put, List.setIfInBounds_toArray, List.set_cons_zero, List.set_cons_succ]
        refine anyT_one (i := 1) (by kernel_rfl) rfl (fun K hK => ?_)
        rw [if_pos (by rfl)]
        try simp only [List.getElem_toArray, List.getElem_cons_succ, List.getElem_cons_zero]
        (go_simp; refine (HRT.out _ (HE.out.below M.out.below HE.out.lt) M.out.tree).mono ?_; rintro e w7 ⟨rfl, hb⟩; replace M := Lib.hid (M.out.call hb); clear hb)
        refine hK _ _ (fun _ => M.out.root) ?_
        clear hK K
        try simp only [List.getElem_toArray, List.getElem_cons_succ, List.getElem_cons_zero, Act.put, List.setIfInBounds_toArray, List.set_cons_zero, List.set_cons_succ]
        refine anyT_takeY (i := 3) (v := .bool true) rfl (by kernel_rfl) (by kernel_rfl) (by kernel_rfl) (fun _ _ _ h => h) (by kernel_rfl) (Or.inl ⟨by rfl, by intro w; have h := eqIn32_self R w; go_simp⟩) ?_
        try simp only [List.getElem_toArray, List.getElem_cons_succ, List.getElem_cons_zero, Act.put, List.setIfInBounds_toArray, List.set_cons_zero, List.set_cons_succ]
        refine anyT_takeY (i := 4) (v := .bool true) rfl (by kernel_rfl) (by kernel_rfl) (by kernel_rfl) (fun _ _ _ h => h) (by kernel_rfl) (Or.inl ⟨by rfl, by intro w; go_simp⟩) ?_
        try simp only [List.getElem_toArray, List.getElem_cons_succ, List.getElem_cons_zero, Act.put, List.setIfInBounds_toArray, List.set_cons_zero, List.set_cons_succ]
        refine anyT_takeY (i := 5) (v := (.pointer p)) rfl (by kernel_rfl) (by kernel_rfl) (by kernel_rfl) (fun _ _ _ h => h) (by kernel_rfl) (Or.inl ⟨by rfl, by intro w; go_simp⟩) ?_
        try simp only [List.getElem_toArray, List.getElem_cons_succ, List.getElem_cons_zero, Act.put, List.setIfInBounds_toArray, List.set_cons_zero, List.set_cons_succ]
        refine anyT_takeY (i := 7) (v := v) rfl (by kernel_rfl) (by kernel_rfl) (by kernel_rfl) (fun _ _ _ h => h) (by kernel_rfl) (Or.inl ⟨by rfl, by intro w; go_simp⟩) ?_
        try simp only [List.getElem_toArray, List.getElem_cons_succ, List.getElem_cons_zero, Act.put, List.setIfInBounds_toArray, List.set_cons_zero, List.set_cons_succ]
        refine anyT_one (i := 6) (by kernel_rfl) rfl (fun K hK => ?_)
        rw [if_pos (by rfl)]
        try simp only [List.getElem_toArray, List.getElem_cons_succ, List.getElem_cons_zero]
        (go_simp; refine (HRF.out _ M.out.tree).mono ?_; rintro e w8 ⟨v8, rfl, hkv, hb⟩; have HX8 := Lib.hid hkv; clear hkv; replace M := Lib.hid (M.out.call hb); clear hb)
        refine hK _ _ (not_mem rfl) ?_
        clear hK K
        try simp only [List.getElem_toArray, List.getElem_cons_succ, List.getElem_cons_zero, Act.put, List.setIfInBounds_toArray, List.set_cons_zero, List.set_cons_succ]
        refine anyT_one (i := 8) (by kernel_rfl) rfl (fun K hK => ?_)
        rw [if_pos (by rfl)]
        try simp only [List.getElem_toArray, List.getElem_cons_succ, List.getElem_cons_zero]
        (go_simp; refine (pairs_same v8 v L _ HX8.out M.out.all).mono ?_; rintro e w9 ⟨rfl, hb⟩; replace M := Lib.hid (M.out.call hb); clear hb)
        refine hK _ _ (not_mem rfl) ?_
        clear hK K
        try simp only [List.getElem_toArray, List.getElem_cons_succ, List.getElem_cons_zero, Act.put, List.setIfInBounds_toArray, List.set_cons_zero, List.set_cons_succ]
        refine anyT_takeY (i := 9) (v := .bool true) rfl (by kernel_rfl) (by kernel_rfl) (by kernel_rfl) (fun _ _ _ h => h) (by kernel_rfl) (Or.inl ⟨by rfl, by intro w; go_simp⟩) ?_
        try simp only [List.getElem_toArray, List.getElem_cons_succ, List.getElem_cons_zero, Act.put, List.setIfInBounds_toArray, List.set_cons_zero, List.set_cons_succ]
        refine anyT_takeY (i := 10) (v := .bool true) rfl (by kernel_rfl) (by kernel_rfl) (by kernel_rfl) (fun _ _ _ h => h) (by kernel_rfl) (Or.inl ⟨by rfl, by intro w; go_simp⟩) ?_
        try simp only [List.getElem_toArray, List.getElem_cons_succ, List.getElem_cons_zero, Act.put, List.setIfInBounds_toArray, List.set_cons_zero, List.set_cons_succ]
        refine anyT_one (i := 11) (by kernel_rfl) rfl (fun K hK => ?_)
        rw [if_pos (by rfl)]
        try simp only [List.getElem_toArray, List.getElem_cons_succ, List.getElem_cons_zero]
        (go_simp; refine (avsure_any _ (HE.out.below M.out.below HE.out.lt)).mono ?_; rintro e w10 ⟨rfl, hb⟩; replace M := Lib.hid (M.out.call hb); clear hb)
        refine hK _ _ (not_mem rfl) ?_
        clear hK K
        try simp only [List.getElem_toArray, List.getElem_cons_succ, List.getElem_cons_zero, Act.put, List.setIfInBounds_toArray, List.set_cons_zero, List.set_cons_succ]
        refine anyT_takeY (i := 12) (v := .bool true) rfl (by kernel_rfl) (by kernel_rfl) (by kernel_rfl) (fun _ _ _ h => h) (by kernel_rfl) (Or.inl ⟨by rfl, by intro w; go_simp⟩) ?_
        try simp only [List.getElem_toArray, List.getElem_cons_succ, List.getElem_cons_zero, Act.put, List.setIfInBounds_toArray, List.set_cons_zero, List.set_cons_succ]
        refine anyT_takeY (i := 13) (v := .bool true) rfl (by kernel_rfl) (by kernel_rfl) (by kernel_rfl) (fun _ _ _ h => h) (by kernel_rfl) (Or.inl ⟨by rfl, by intro w; go_simp⟩) ?_
        try simp only [List.getElem_toArray, List.getElem_cons_succ, List.getElem_cons_zero, Act.put, List.setIfInBounds_toArray, List.set_cons_zero, List.set_cons_succ]
        refine anyT_done (by kernel_rfl) ?_ _
        go_wp2_with (fail)
        go_ret
        exact ⟨rfl, M.out.below⟩
end Go.Proofs.YtlhfdkkeanchcaaDoor

/- Part 44 of the proof. -/
import Derived.Test.YtfmfemmknccfmaaDoorPa26
import Derived.Test.YtfmfemmknccfmaaDoorPa38
import Derived.Test.YtfmfemmknccfmaaDoorPa43
namespace Go.Proofs.YtfmfemmknccfmaaDoor
set_option linter.unusedVariables false
set_option linter.unusedSimpArgs false
open Go.RowKit
set_option maxRecDepth 100000
set_option linter.unusedSimpArgs false
set_option linter.unusedVariables false
theorem TreeO.ptr8 {w : World} {v : Value} {t : Option AvT} (h : TreeO w v t) : ∃ p, v = .pointer p := by
  cases t with
  | none => exact ⟨_, h⟩
  | some t => obtain ⟨g, e, _⟩ := h; exact ⟨_, e⟩
/-- what lies in memory within a round -/
structure AlM (w0 w : World) (p : Option Addr) (t : Option AvT) (va : Value) (L : List KV) (b o : Nat) (key val : ByteArray) : Prop where
  below : Below w0.heap.size w0 w
  tree : TreeO w (.pointer p) t
  all : KVIn w va L
  lt : b < w.heap.size
  c0 : w.cell? ⟨b, o, none⟩ = some (.string key)
  c1 : w.cell? ⟨b, o + 1, none⟩ = some (.string val)
theorem AlM.call {w0 w w' : World} {p : Option Addr} {t : Option AvT} {va : Value} {L : List KV} {b o : Nat} {key val : ByteArray} (m : AlM w0 w p t va L b o key val) (h : Below w.heap.size w w') : AlM w0 w' p t va L b o key val :=
  ⟨m.below.trans (h.mono m.below.size), m.tree.below h, m.all.below h, Nat.lt_of_lt_of_le m.lt h.size, (h.cell (p := ⟨b, o, none⟩) m.lt).trans m.c0, (h.cell (p := ⟨b, o + 1, none⟩) m.lt).trans m.c1⟩
/-- and the proof in its variable -/
structure AlP (w : World) (g7 : Nat) (P : PvP) (sv : Value) : Prop where
  prf : w.heap[g7]? = some (.cells (prC P sv) 52 (0, 0))
  st : StIn w sv P.steps
theorem AlP.call {w w' : World} {g7 : Nat} {P : PvP} {sv : Value} (m : AlP w g7 P sv) (h : Below w.heap.size w w') : AlP w' g7 P sv := ⟨(h.block _ (bk_lt m.prf)).trans m.prf, m.st.below h⟩
structure AlA (w : World) (g : Nat) (vl vr : Value) (L R : List PvP) : Prop where
  abs : w.heap[g]? = some (.cells #[vl, vr] 62 (0, 0))
  l : PrsIn w vl L
  r : PrsIn w vr R
theorem AlA.call {w w' : World} {g : Nat} {vl vr : Value} {L R : List PvP} (m : AlA w g vl vr L R) (h : Below w.heap.size w w') : AlA w' g vl vr L R := ⟨(h.block _ (bk_lt m.abs)).trans m.abs, m.l.below h, m.r.below h⟩
set_option maxRecDepth 1000000 in
set_option maxHeartbeats 8000000 in
theorem lall_any (va : Value) (ts : List KV) (N : Nat) (w : World) (he : Env w) (hg : ErrType w) (hx : KVIn w va ts) (hs : ∀ t ∈ ts, t.1.size + t.2.size ≤ N) (hN : N ≤ 1048576) :
    Calls Tryd.prog 6 #[va] w fun e w' => e = .returned (.bool true) ∧ Below w.heap.size w w' := by
  have HGR := Lib.hid (grown8_any va ts N w he hx hs hN)
  have HE := Lib.hid he
  have HG := Lib.hid hg
  have hgl : 0 < w.heap.size := World.block_lt_of_cell? w _ hg
  have HGL := Lib.hid hgl
  have HNB := Lib.hid hN
  obtain ⟨a0, cap0, rfl⟩ := hx.len
  clear he hg hx hs hN hgl
  unfold GrPost8 at HGR
  go_enter Tryd.func6, Tryd.ntmps6
  go_upto_region 2 with (first
    | (go_at_call 19; (with_reducible refine HGR.out.mono ?_); rintro e w1 ⟨v, cs, t, rfl, ht, hr, hg, hb⟩; have HT := Lib.hid ht; have HGT := Lib.hid hg; have HBT := Lib.hid hb; have csZ := Lib.hid hr.size; have csO := Lib.hid hr.one; clear ht hr hg hb)
    | (refine wpList_store_row rfl 29 (.tmp 4) (.tmp 19) rfl w1.heap.size cs rfl rfl 29 _ (heap_alloc_new _ _) (by rw [csZ.out]; kernel_rfl) (by rw [csZ.out]; rfl) csO.out ?_; rw [World.setRow_alloc_new]))
  replace HT := Lib.hid (HT.out.below (below_alloc w1 (.cells cs 29)))
  replace HBT := Lib.hid (HBT.out.trans ((below_alloc w1 (.cells cs 29)).mono HBT.out.size))
  generalize w1.alloc (.cells cs 29) = w2 at *
  obtain ⟨p, rfl⟩ := HT.out.ptr8
  have hsrt : Srt (pairsO t) := HGT.out.srt
  have HSRT := Lib.hid hsrt
  have hmany : manyO t ≤ 40 := HGT.out.many
  have HMANY := Lib.hid hmany
  obtain ⟨L, hL⟩ : ∃ L, L = pairsO t := ⟨_, rfl⟩
  have HLL := Lib.hid hL
  have HRF := Lib.hid (show ∀ w, TreeO w (.pointer p) t → Calls Tryd.prog 11 #[.pointer p, .string { data := #[] }, .string { data := #[] }] w fun e w' => ∃ v, e = .returned v ∧ KVIn w' v L ∧ Below w.heap.size w w' from fun w h => by
    have := range_kv p t eBA eBA w h hsrt (by omega)
    rw [range_full hsrt, ← hL] at this; exact this)
  have HLB := Lib.hid (show L.length ≤ 40 from by rw [hL, manyO_eq]; exact hmany)
  clear hsrt hmany hL
  go_upto_region 3 with (first
    | (go_at_call 11; (with_reducible refine (HRF.out _ HT.out).mono ?_); rintro e w4 ⟨v, rfl, hkv, hb⟩; have HX := Lib.hid hkv; replace HT := Lib.hid (HT.out.below hb); replace HBT := Lib.hid (HBT.out.trans (hb.mono HBT.out.size)); clear hkv hb))
  obtain ⟨va, vc, rfl⟩ := HX.out.len
  have HKB := Lib.hid (Below.refl w4.heap.size w4)
  have HE4 := Lib.hid (HE.out.below HBT.out HE.out.lt)
  have HG4 := Lib.hid (HG.out.below HBT.out)
  have hlen40 : L.length ≤ 40 := HLB.out
  go_wp2_with (fail)
  go_loopw [6] (fun y wr => ∃ k : Nat, k ≤ L.length ∧ y = .int .i64 (k : Int) ∧ Hid (Below w4.heap.size w4 wr)) (fun y _ => L.length - (intOf y).toNat)
  case atStart => exact ⟨0, Nat.zero_le _, rfl, HKB⟩
  case round =>
    clear HKB
    obtain ⟨k, hkl, rfl, HKB⟩ := hrel
    by_cases hlt : k < L.length
    · obtain ⟨x, hx⟩ : ∃ x, L[k]? = some x := ⟨L[k], List.getElem?_eq_getElem hlt⟩
      have hltI : (k : Int) < (L.length : Int) := by omega
      have hbw : Below w.heap.size w wr := HBT.out.trans (HKB.out.mono HBT.out.size)
      have hkv := HX.out.below HKB.out
      obtain ⟨b, off, rfl, hbl, p0, p1⟩ := hkv.at k x hx
      obtain ⟨key, val⟩ := x
      simp only at p0 p1
      have M := Lib.hid (show AlM w4 wr p t (.slice (some ⟨b, off, none⟩) L.length vc) L b (off + k * 2) key val from ⟨HKB.out, HT.out.below HKB.out, hkv, hbl, p0, p1⟩)
      have hx' : (pairsO t)[k]? = some (key, val) := by rw [← HLL.out]; exact hx
      have hsz : key.size + val.size ≤ 1048576 := Nat.le_trans (HGT.out.size _ (List.mem_of_getElem? hx')) HNB.out
      obtain ⟨s, hex, hve⟩ := exist_at HSRT.out hx' (by have := HMANY.out; omega)
      simp only at hex hve
      have hzP : (⟨key, val, s⟩ : PvP).key.size + (⟨key, val, s⟩ : PvP).val.size ≤ 140737488351232 := by show key.size + val.size ≤ _; omega
      obtain ⟨P, hP⟩ : ∃ P : PvP, P = ⟨key, val, s⟩ := ⟨_, rfl⟩
      rw [← hP] at hex hve hzP
      have hfd := (find_place HSRT.out hx').1
      have hgd := (find_place HSRT.out hx').2
      simp only at hfd hgd
      have hm1 : manyO t ≤ 1099511627776 := by have := HMANY.out; omega
      have HXC := Lib.hid (fun w h => exist_ok (.pointer p) t key P hex hm1 w h)
      have HNC := Lib.hid (fun w h => none_in (.pointer p) t key (by rw [hgd]; rfl) hm1 (by rw [hfd]; omega) w h)
      have HRT := Lib.hid (fun w h1 h2 => root_any (.pointer p) t w h1 h2)
      have hkb : bl key (key ++ nulB) = true := bl_nul key
      have hks : (key ++ nulB).size ≤ 9223372036854775807 := by rw [ByteArray.size_append]; show key.size + 1 ≤ _; omega
      have hks2 : key.size + 1 ≤ 9223372036854775807 := by omega
      obtain ⟨K, hK⟩ : ∃ K, K = key ++ nulB := ⟨_, rfl⟩
      have HK := Lib.hid (show key ++ { data := #[0] } = K from by rw [hK]; rfl)
      rw [← hK] at hkb hks
      have hfl := findO_le t HSRT.out K
      have HGC := Lib.hid (fun w h => get_any (.pointer p) K t w h)
      obtain ⟨R, hR⟩ : ∃ R, R = rootO t := ⟨_, rfl⟩
      rw [← hR] at hve HRT
      have HV1 := Lib.hid (fun v w he hst => verify_ok R key val P none hve hzP v w he hst)
      have HNU := Lib.hid (fun w h => num8_any (some 9) w h)
      simp only [errV, numE] at HNU
      unfold VeOk at HV1
      simp only [errV] at HV1
      unfold ExOk at HXC
      unfold NoIn at HNC
      cases hgk : getO t K with
      | none =>
        have hab := absent_ok HSRT.out (by have := HMANY.out; omega) hgk
        have han := absent_no HSRT.out (by have := HMANY.out; omega) hx' hgk hkb
        simp only at han
        have hzl : ∀ q ∈ noL t K, q.key.size + q.val.size ≤ 140737488351232 := fun q hq => Nat.le_trans (HGT.out.size _ (noL_mem hq)) (by have := HNB.out; omega)
        have hzr : ∀ q ∈ noR t K, q.key.size + q.val.size ≤ 140737488351232 := fun q hq => Nat.le_trans (HGT.out.size _ (noR_mem hq)) (by have := HNB.out; omega)
        have HNO := Lib.hid (fun w h => none_out (.pointer p) t K hgk hm1 (by omega) w h)
        rw [← hR] at hab han
        obtain ⟨NL, hNL⟩ : ∃ l, l = noL t K := ⟨_, rfl⟩
        obtain ⟨NR, hNR⟩ : ∃ l, l = noR t K := ⟨_, rfl⟩
        rw [← hNL] at hab han hzl HNO
        rw [← hNR] at hab han hzr HNO
        have HVN := Lib.hid (fun vl vr w he hl hr => verNone_ok R K NL NR none hab hzl hzr vl vr w he hl hr)
        have HVK := Lib.hid (fun vl vr w he hl hr => verNone_ok R key NL NR (some 23) han hzl hzr vl vr w he hl hr)
        unfold VeOk at HVN HVK
        simp only [errV] at HVN HVK
        unfold NoOut at HNO
        rw [hgk] at HGC
        clear hab han hzl hzr hNL hNR
        clear hex hve hzP hP hfd hgd hm1 hkb hK hfl hR hgk hx hx' hkv hbl hbw p0 p1
        have c0 := M.out.c0
        go_upto_region 7 with (first
          | (go_at_call 20; (with_reducible refine (HXC.out _ M.out.tree).mono ?_); rintro e w5 ⟨sa, sc, rfl, hst, hb⟩; have HST := Lib.hid hst; replace M := Lib.hid (M.out.call hb); clear hst hb)
          | (refine wpList_store_row rfl 52 (.tmp 7) (.tmp 36) rfl w5.heap.size (prC P (.slice sa P.steps.length sc)) rfl rfl 52 _ (heap_alloc_new _ _) (by kernel_rfl) rfl (prC_one _ _ _ _) ?_; rw [World.setRow_alloc_new]))
        have hb2 := below_alloc w5 (.cells (prC P (.slice sa P.steps.length sc)) 52)
        have MP := Lib.hid (show AlP (w5.alloc (.cells (prC P (.slice sa P.steps.length sc)) 52)) w5.heap.size P (.slice sa P.steps.length sc) from ⟨heap_alloc_new _ _, HST.out.below hb2⟩)
        replace M := Lib.hid (M.out.call hb2)
        obtain ⟨g7, hg7⟩ : ∃ g, g = w5.heap.size := ⟨_, rfl⟩
        rw [← hg7] at MP ⊢
        clear hg7 hb2 HST c0
        generalize w5.alloc (.cells (prC P (.slice sa P.steps.length sc)) 52) = w5' at *
        have c0 := M.out.c0
        go_upto_region 8 with (first
          | (go_at_call 22; (with_reducible refine (HNC.out _ M.out.tree).mono ?_); rintro e w6 ⟨a1, c1, a2, c2, rfl, hb⟩; replace M := Lib.hid (M.out.call hb); replace MP := Lib.hid (MP.out.call hb); clear hb)
          | (refine wpList_store_row rfl 62 (.tmp 9) (.tmp 46) rfl w6.heap.size #[.slice a1 0 c1, .slice a2 0 c2] rfl rfl 62 _ (heap_alloc_new _ _) (by kernel_rfl) rfl (by simp [Value.oneCell']) ?_; rw [World.setRow_alloc_new]))
        have hb := below_alloc w6 (.cells #[.slice a1 0 c1, .slice a2 0 c2] 62)
        replace M := Lib.hid (M.out.call hb); replace MP := Lib.hid (MP.out.call hb)
        clear hb c0
        generalize w6.alloc (.cells #[.slice a1 0 c1, .slice a2 0 c2] 62) = w6' at *
        have c0 := M.out.c0
        have hK0 := HK.out
        go_upto_region 9 with (first
          | (go_at_call 22; (with_reducible refine (HNO.out _ M.out.tree).mono ?_); rintro e w7 ⟨b1, d1, b2, d2, rfl, hl, hr, hb⟩; have HL := Lib.hid hl; have HQ := Lib.hid hr; replace M := Lib.hid (M.out.call hb); replace MP := Lib.hid (MP.out.call hb); clear hl hr hb)
          | (refine wpList_store_row rfl 62 (.tmp 11) (.tmp 57) rfl w7.heap.size #[.slice b1 NL.length d1, .slice b2 NR.length d2] rfl rfl 62 _ (heap_alloc_new _ _) (by kernel_rfl) rfl (by simp [Value.oneCell']) ?_; rw [World.setRow_alloc_new]))
        have hb := below_alloc w7 (.cells #[.slice b1 NL.length d1, .slice b2 NR.length d2] 62)
        have MA := Lib.hid (show AlA (w7.alloc (.cells #[.slice b1 NL.length d1, .slice b2 NR.length d2] 62)) w7.heap.size (.slice b1 NL.length d1) (.slice b2 NR.length d2) NL NR from ⟨heap_alloc_new _ _, HL.out.below hb, HQ.out.below hb⟩)
        obtain ⟨g11, hg11⟩ : ∃ g, g = w7.heap.size := ⟨_, rfl⟩
        rw [← hg11] at MA ⊢
        replace M := Lib.hid (M.out.call hb); replace MP := Lib.hid (MP.out.call hb)
        clear hb c0 hg11 HL HQ hK0
        generalize w7.alloc (.cells #[.slice b1 NL.length d1, .slice b2 NR.length d2] 62) = w7 at *
        refine wp_region_T (fun w' => (w'.cell? ⟨b, off + k * 2, none⟩ = some (.string key) ∧ w'.cell? ⟨b, off + k * 2 + 1, none⟩ = some (.string val)) ∧ w'.rangeAt g7 0 (prC P (.slice sa P.steps.length sc)).toList) [4, 7, 8, 9, 12, 13, 14, 15, 16, 21] (by kernel_rfl) ?_
        replace MP := Lib.hid (MP.out.call (Below.refl _ _).drew)
        replace MA := Lib.hid (MA.out.call (Below.refl _ _).drew)
        replace M := Lib.hid (M.out.call (Below.refl _ _).drew)
        generalize w7.drew = w8 at *
        refine anyT_takeY (i := 0) (v := .nilIface) rfl (by kernel_rfl) (by kernel_rfl) (by kernel_rfl) (fun _ _ _ h => h) (by kernel_rfl) (Or.inl ⟨by rfl, by intro w; go_simp⟩) ?_
        try simp only [List.getElem_toArray, List.getElem_cons_succ, List.getElem_cons_zero, Act.put, List.setIfInBounds_toArray, List.set_cons_zero, List.set_cons_succ]
        refine anyT_takeY (i := 1) (v := .bool false) rfl (by kernel_rfl) (by kernel_rfl) (by kernel_rfl) (fun _ _ _ h => h) (by kernel_rfl) (Or.inl ⟨by rfl, by intro w; go_simp⟩) ?_
        try simp only [List.getElem_toArray, List.getElem_cons_succ, List.getElem_cons_zero, Act.put, List.setIfInBounds_toArray, List.set_cons_zero, List.set_cons_succ]
        refine anyT_takeY (i := 2) (v := .bool false) rfl (by kernel_rfl) (by kernel_rfl) (by kernel_rfl) (fun _ _ _ h => h) (by kernel_rfl) (Or.inl ⟨by rfl, by intro w; go_simp⟩) ?_
        try simp only [List.getElem_toArray, List.getElem_cons_succ, List.getElem_cons_zero, Act.put, List.setIfInBounds_toArray, List.set_cons_zero, List.set_cons_succ]
        refine anyT_takeY (i := 3) (v := .pointer p) rfl (by kernel_rfl) (by kernel_rfl) (by kernel_rfl) (fun _ _ _ h => h) (by kernel_rfl) (Or.inl ⟨by rfl, by intro w; go_simp⟩) ?_
        try simp only [List.getElem_toArray, List.getElem_cons_succ, List.getElem_cons_zero, Act.put, List.setIfInBounds_toArray, List.set_cons_zero, List.set_cons_succ]
        refine anyT_takeY (i := 5) (v := .slice (some ⟨b, off, none⟩) L.length vc) rfl (by kernel_rfl) (by kernel_rfl) (by kernel_rfl) (fun _ _ _ h => h) (by kernel_rfl) (Or.inl ⟨by rfl, by intro w; go_simp⟩) ?_
        try simp only [List.getElem_toArray, List.getElem_cons_succ, List.getElem_cons_zero, Act.put, List.setIfInBounds_toArray, List.set_cons_zero, List.set_cons_succ]
        refine anyT_takeY (i := 6) (v := .int .i64 (k : Int)) rfl (by kernel_rfl) (by kernel_rfl) (by kernel_rfl) (fun _ _ _ h => h) (by kernel_rfl) (Or.inl ⟨by rfl, by intro w; go_simp⟩) ?_
        try simp only [List.getElem_toArray, List.getElem_cons_succ, List.getElem_cons_zero, Act.put, List.setIfInBounds_toArray, List.set_cons_zero, List.set_cons_succ]
        refine anyT_takeY (i := 10) (v := .slice (some ⟨b, off, none⟩) L.length vc) rfl (by kernel_rfl) (by kernel_rfl) (by kernel_rfl) (fun _ _ _ h => h) (by kernel_rfl) (Or.inl ⟨by rfl, by intro w; go_simp⟩) ?_
        try simp only [List.getElem_toArray, List.getElem_cons_succ, List.getElem_cons_zero, Act.put, List.setIfInBounds_toArray, List.set_cons_zero, List.set_cons_succ]
        refine anyT_takeY (i := 11) (v := .int .i64 (k : Int)) rfl (by kernel_rfl) (by kernel_rfl) (by kernel_rfl) (fun _ _ _ h => h) (by kernel_rfl) (Or.inl ⟨by rfl, by intro w; go_simp⟩) ?_
        try simp only [List.getElem_toArray, List.getElem_cons_succ, List.getElem_cons_zero, Act.put, List.setIfInBounds_toArray, List.set_cons_zero, List.set_cons_succ]
        refine anyT_take [8, 9, 16, 17, 18, 19, 20, 21, 22, 23] (i := 7) (v := .pointer (some ⟨b, off + k * 2, none⟩)) rfl (by kernel_rfl) (by kernel_rfl) (by kernel_rfl) (fun _ _ _ h => h) (by kernel_rfl) (Or.inl ⟨by rfl, fun w' _ => by go_simp⟩) ⟨⟨M.out.c0, M.out.c1⟩, row_range MP.out.prf⟩ ?_
        try simp only [List.getElem_toArray, List.getElem_cons_succ, List.getElem_cons_zero, Act.put, List.setIfInBounds_toArray, List.set_cons_zero, List.set_cons_succ]
        refine anyT_take [9, 16, 17, 18, 19, 20, 21, 22, 23] (i := 8) (v := .pointer (some ⟨b, off + k * 2, none⟩)) rfl (by kernel_rfl) (by kernel_rfl) (by kernel_rfl) (fun _ _ _ h => h) (by kernel_rfl) (Or.inl ⟨by rfl, fun w' _ => by go_simp⟩) ⟨⟨M.out.c0, M.out.c1⟩, row_range MP.out.prf⟩ ?_
        try simp only [List.getElem_toArray, List.getElem_cons_succ, List.getElem_cons_zero, Act.put, List.setIfInBounds_toArray, List.set_cons_zero, List.set_cons_succ]
        refine anyT_take [13, 14, 16, 17, 18, 19, 20, 21, 22, 23] (i := 12) (v := .pointer (some ⟨b, off + k * 2, none⟩)) rfl (by kernel_rfl) (by kernel_rfl) (by kernel_rfl) (fun _ _ _ h => h) (by kernel_rfl) (Or.inl ⟨by rfl, fun w' _ => by go_simp⟩) ⟨⟨M.out.c0, M.out.c1⟩, row_range MP.out.prf⟩ ?_
        try simp only [List.getElem_toArray, List.getElem_cons_succ, List.getElem_cons_zero, Act.put, List.setIfInBounds_toArray, List.set_cons_zero, List.set_cons_succ]
        refine anyT_take [14, 16, 17, 18, 19, 20, 21, 22, 23] (i := 13) (v := .pointer (some ⟨b, off + k * 2 + 1, none⟩)) rfl (by kernel_rfl) (by kernel_rfl) (by kernel_rfl) (fun _ _ _ h => h) (by kernel_rfl) (Or.inl ⟨by rfl, fun w' _ => by go_simp⟩) ⟨⟨M.out.c0, M.out.c1⟩, row_range MP.out.prf⟩ ?_
        try simp only [List.getElem_toArray, List.getElem_cons_succ, List.getElem_cons_zero, Act.put, List.setIfInBounds_toArray, List.set_cons_zero, List.set_cons_succ]
        refine anyT_take [16, 17, 18, 19, 20, 21, 22, 23] (i := 9) (v := .string key) rfl (by kernel_rfl) (by kernel_rfl) (by kernel_rfl) (fun _ _ _ h => h) (by kernel_rfl) (Or.inl ⟨by rfl, fun w' hS => by have c := hS.1.1; go_simp⟩) ⟨⟨M.out.c0, M.out.c1⟩, row_range MP.out.prf⟩ ?_
        try simp only [List.getElem_toArray, List.getElem_cons_succ, List.getElem_cons_zero, Act.put, List.setIfInBounds_toArray, List.set_cons_zero, List.set_cons_succ]
        refine anyT_take [16, 17, 18, 19, 20, 21, 22, 23] (i := 14) (v := .string val) rfl (by kernel_rfl) (by kernel_rfl) (by kernel_rfl) (fun _ _ _ h => h) (by kernel_rfl) (Or.inl ⟨by rfl, fun w' hS => by have c := hS.1.2; go_simp⟩) ⟨⟨M.out.c0, M.out.c1⟩, row_range MP.out.prf⟩ ?_
        try simp only [List.getElem_toArray, List.getElem_cons_succ, List.getElem_cons_zero, Act.put, List.setIfInBounds_toArray, List.set_cons_zero, List.set_cons_succ]
        refine anyT_take [16, 17, 18, 19, 20, 21, 22, 23] (i := 15) (v := .agg (prC P (.slice sa P.steps.length sc))) rfl (by kernel_rfl) (by kernel_rfl) (by kernel_rfl) (fun _ _ _ h => h) (by kernel_rfl) (row_yields' (by rfl) 52 (.tmp 7) rfl g7 0 rfl _ _ (fun _ h => h.2) Tryd.underlying52 rfl (by kernel_rfl)) ⟨⟨M.out.c0, M.out.c1⟩, row_range MP.out.prf⟩ ?_
        try simp only [List.getElem_toArray, List.getElem_cons_succ, List.getElem_cons_zero, Act.put, List.setIfInBounds_toArray, List.set_cons_zero, List.set_cons_succ]
        refine anyT_one (i := 4) (by kernel_rfl) rfl (fun K hK => ?_)
        rw [if_pos (by rfl)]
        try simp only [List.getElem_toArray, List.getElem_cons_succ, List.getElem_cons_zero]
        (go_simp; refine (HRT.out _ (HE4.out.below M.out.below HE4.out.lt) M.out.tree).mono ?_; rintro e w9 ⟨rfl, hb⟩; replace M := Lib.hid (M.out.call hb); replace MP := Lib.hid (MP.out.call hb); replace MA := Lib.hid (MA.out.call hb); clear hb)
        refine hK _ _ (fun _ => ⟨⟨M.out.c0, M.out.c1⟩, row_range MP.out.prf⟩) ?_
        clear hK K
        try simp only [List.getElem_toArray, List.getElem_cons_succ, List.getElem_cons_zero, Act.put, List.setIfInBounds_toArray, List.set_cons_zero, List.set_cons_succ]
        refine anyT_one (i := 16) (by kernel_rfl) rfl (fun K hK => ?_)
        rw [if_pos (by rfl)]
        try simp only [List.getElem_toArray, List.getElem_cons_succ, List.getElem_cons_zero]
        (go_simp; refine (HV1.out _ _ (HE4.out.below M.out.below HE4.out.lt) MP.out.st).mono ?_; rintro e w10 ⟨rfl, hb⟩; replace M := Lib.hid (M.out.call hb); replace MP := Lib.hid (MP.out.call hb); replace MA := Lib.hid (MA.out.call hb); clear hb)
        refine hK _ _ (fun _ => ⟨⟨M.out.c0, M.out.c1⟩, row_range MP.out.prf⟩) ?_
        clear hK K
        try simp only [List.getElem_toArray, List.getElem_cons_succ, List.getElem_cons_zero, Act.put, List.setIfInBounds_toArray, List.set_cons_zero, List.set_cons_succ]
        refine anyT_takeY (i := 17) (v := .bool false) rfl (by kernel_rfl) (by kernel_rfl) (by kernel_rfl) (fun _ _ _ h => h) (by kernel_rfl) (Or.inl ⟨by rfl, by intro w; go_simp⟩) ?_
        try simp only [List.getElem_toArray, List.getElem_cons_succ, List.getElem_cons_zero, Act.put, List.setIfInBounds_toArray, List.set_cons_zero, List.set_cons_succ]
        refine anyT_takeY (i := 18) (v := .bool false) rfl (by kernel_rfl) (by kernel_rfl) (by kernel_rfl) (fun _ _ _ h => h) (by kernel_rfl) (Or.inl ⟨by rfl, by intro w; go_simp⟩) ?_
        try simp only [List.getElem_toArray, List.getElem_cons_succ, List.getElem_cons_zero, Act.put, List.setIfInBounds_toArray, List.set_cons_zero, List.set_cons_succ]
        refine anyT_takeY (i := 19) (v := .bool false) rfl (by kernel_rfl) (by kernel_rfl) (by kernel_rfl) (fun _ _ _ h => h) (by kernel_rfl) (Or.inl ⟨by rfl, by intro w; go_simp⟩) ?_
        try simp only [List.getElem_toArray, List.getElem_cons_succ, List.getElem_cons_zero, Act.put, List.setIfInBounds_toArray, List.set_cons_zero, List.set_cons_succ]
        refine anyT_takeY (i := 20) (v := .iface 95 (.int .i64 9)) rfl (by kernel_rfl) (by kernel_rfl) (by kernel_rfl) (fun _ _ _ h => h) (by kernel_rfl) (Or.inl ⟨by rfl, by intro w; go_simp⟩) ?_
        try simp only [List.getElem_toArray, List.getElem_cons_succ, List.getElem_cons_zero, Act.put, List.setIfInBounds_toArray, List.set_cons_zero, List.set_cons_succ]
        refine anyT_one (i := 21) (by kernel_rfl) rfl (fun K hK => ?_)
        rw [if_pos (by rfl)]
        try simp only [List.getElem_toArray, List.getElem_cons_succ, List.getElem_cons_zero]
        (go_simp; refine (HNU.out _ (HG4.out.below M.out.below)).mono ?_; rintro e w11 ⟨rfl, hb⟩; replace M := Lib.hid (M.out.call hb); replace MP := Lib.hid (MP.out.call hb); replace MA := Lib.hid (MA.out.call hb); clear hb)
        refine hK _ _ (fun _ => ⟨⟨M.out.c0, M.out.c1⟩, row_range MP.out.prf⟩) ?_
        clear hK K
        try simp only [List.getElem_toArray, List.getElem_cons_succ, List.getElem_cons_zero, Act.put, List.setIfInBounds_toArray, List.set_cons_zero, List.set_cons_succ]
        refine anyT_takeY (i := 22) (v := .bool false) rfl (by kernel_rfl) (by kernel_rfl) (by kernel_rfl) (fun _ _ _ h => h) (by kernel_rfl) (Or.inl ⟨by rfl, by intro w; go_simp⟩) ?_
        try simp only [List.getElem_toArray, List.getElem_cons_succ, List.getElem_cons_zero, Act.put, List.setIfInBounds_toArray, List.set_cons_zero, List.set_cons_succ]
        refine anyT_takeY (i := 23) (v := .bool false) rfl (by kernel_rfl) (by kernel_rfl) (by kernel_rfl) (fun _ _ _ h => h) (by kernel_rfl) (Or.inl ⟨by rfl, by intro w; go_simp⟩) ?_
        try simp only [List.getElem_toArray, List.getElem_cons_succ, List.getElem_cons_zero, Act.put, List.setIfInBounds_toArray, List.set_cons_zero, List.set_cons_succ]
        refine anyT_done (by kernel_rfl) ?_ _
        have c0 := M.out.c0
        have hK0 := HK.out
        go_upto_region 12 with (first
          | (go_at_call 34; (with_reducible refine (HGC.out _ M.out.tree).mono ?_); rintro e w' ⟨rfl, rfl⟩))
        clear c0 hK0 MP
        refine wp_region_T (fun w' => w'.cell? ⟨b, off + k * 2, none⟩ = some (.string key) ∧ w'.rangeAt g11 0 (#[.slice b1 NL.length d1, .slice b2 NR.length d2] : Array Value).toList) [7, 10, 11, 12, 13, 14, 15, 20, 23, 24, 25, 26, 27] (by kernel_rfl) ?_
        replace MA := Lib.hid (MA.out.call (Below.refl _ _).drew)
        replace M := Lib.hid (M.out.call (Below.refl _ _).drew)
        generalize w11.drew = w12 at *
        refine anyT_takeY (i := 0) (v := .bool false) rfl (by kernel_rfl) (by kernel_rfl) (by kernel_rfl) (fun _ _ _ h => h) (by kernel_rfl) (Or.inl ⟨by rfl, by intro w; go_simp⟩) ?_
        try simp only [List.getElem_toArray, List.getElem_cons_succ, List.getElem_cons_zero, Act.put, List.setIfInBounds_toArray, List.set_cons_zero, List.set_cons_succ]
        refine anyT_takeY (i := 1) (v := .bool true) rfl (by kernel_rfl) (by kernel_rfl) (by kernel_rfl) (fun _ _ _ h => h) (by kernel_rfl) (Or.inl ⟨by rfl, by intro w; go_simp⟩) ?_
        try simp only [List.getElem_toArray, List.getElem_cons_succ, List.getElem_cons_zero, Act.put, List.setIfInBounds_toArray, List.set_cons_zero, List.set_cons_succ]
        refine anyT_takeY (i := 2) (v := .bool true) rfl (by kernel_rfl) (by kernel_rfl) (by kernel_rfl) (fun _ _ _ h => h) (by kernel_rfl) (Or.inl ⟨by rfl, by intro w; go_simp⟩) ?_
        try simp only [List.getElem_toArray, List.getElem_cons_succ, List.getElem_cons_zero, Act.put, List.setIfInBounds_toArray, List.set_cons_zero, List.set_cons_succ]
        refine anyT_takeY (i := 3) (v := .nilIface) rfl (by kernel_rfl) (by kernel_rfl) (by kernel_rfl) (fun _ _ _ h => h) (by kernel_rfl) (Or.inl ⟨by rfl, by intro w; go_simp⟩) ?_
        try simp only [List.getElem_toArray, List.getElem_cons_succ, List.getElem_cons_zero, Act.put, List.setIfInBounds_toArray, List.set_cons_zero, List.set_cons_succ]
        refine anyT_takeY (i := 4) (v := .bool false) rfl (by kernel_rfl) (by kernel_rfl) (by kernel_rfl) (fun _ _ _ h => h) (by kernel_rfl) (Or.inl ⟨by rfl, by intro w; go_simp⟩) ?_
        try simp only [List.getElem_toArray, List.getElem_cons_succ, List.getElem_cons_zero, Act.put, List.setIfInBounds_toArray, List.set_cons_zero, List.set_cons_succ]
        refine anyT_takeY (i := 5) (v := .bool false) rfl (by kernel_rfl) (by kernel_rfl) (by kernel_rfl) (fun _ _ _ h => h) (by kernel_rfl) (Or.inl ⟨by rfl, by intro w; go_simp⟩) ?_
        try simp only [List.getElem_toArray, List.getElem_cons_succ, List.getElem_cons_zero, Act.put, List.setIfInBounds_toArray, List.set_cons_zero, List.set_cons_succ]
        refine anyT_takeY (i := 6) (v := .pointer p) rfl (by kernel_rfl) (by kernel_rfl) (by kernel_rfl) (fun _ _ _ h => h) (by kernel_rfl) (Or.inl ⟨by rfl, by intro w; go_simp⟩) ?_
        try simp only [List.getElem_toArray, List.getElem_cons_succ, List.getElem_cons_zero, Act.put, List.setIfInBounds_toArray, List.set_cons_zero, List.set_cons_succ]
        refine anyT_takeY (i := 8) (v := .slice (some ⟨b, off, none⟩) L.length vc) rfl (by kernel_rfl) (by kernel_rfl) (by kernel_rfl) (fun _ _ _ h => h) (by kernel_rfl) (Or.inl ⟨by rfl, by intro w; go_simp⟩) ?_
        try simp only [List.getElem_toArray, List.getElem_cons_succ, List.getElem_cons_zero, Act.put, List.setIfInBounds_toArray, List.set_cons_zero, List.set_cons_succ]
        refine anyT_takeY (i := 9) (v := .int .i64 (k : Int)) rfl (by kernel_rfl) (by kernel_rfl) (by kernel_rfl) (fun _ _ _ h => h) (by kernel_rfl) (Or.inl ⟨by rfl, by intro w; go_simp⟩) ?_
        try simp only [List.getElem_toArray, List.getElem_cons_succ, List.getElem_cons_zero, Act.put, List.setIfInBounds_toArray, List.set_cons_zero, List.set_cons_succ]
        refine anyT_take [11, 12, 13, 15, 16, 17, 18, 19, 20, 21, 22, 23, 24, 25, 26, 27, 28, 29, 30] (i := 10) (v := .pointer (some ⟨b, off + k * 2, none⟩)) rfl (by kernel_rfl) (by kernel_rfl) (by kernel_rfl) (fun _ _ _ h => h) (by kernel_rfl) (Or.inl ⟨by rfl, fun w' _ => by go_simp⟩) ⟨M.out.c0, row_range MA.out.abs⟩ ?_
        try simp only [List.getElem_toArray, List.getElem_cons_succ, List.getElem_cons_zero, Act.put, List.setIfInBounds_toArray, List.set_cons_zero, List.set_cons_succ]
        refine anyT_take [12, 13, 15, 16, 17, 18, 19, 20, 21, 22, 23, 24, 25, 26, 27, 28, 29, 30] (i := 11) (v := .pointer (some ⟨b, off + k * 2, none⟩)) rfl (by kernel_rfl) (by kernel_rfl) (by kernel_rfl) (fun _ _ _ h => h) (by kernel_rfl) (Or.inl ⟨by rfl, fun w' _ => by go_simp⟩) ⟨M.out.c0, row_range MA.out.abs⟩ ?_
        try simp only [List.getElem_toArray, List.getElem_cons_succ, List.getElem_cons_zero, Act.put, List.setIfInBounds_toArray, List.set_cons_zero, List.set_cons_succ]
        refine anyT_take [13, 15, 16, 17, 18, 19, 20, 21, 22, 23, 24, 25, 26, 27, 28, 29, 30] (i := 12) (v := .string key) rfl (by kernel_rfl) (by kernel_rfl) (by kernel_rfl) (fun _ _ _ h => h) (by kernel_rfl) (Or.inl ⟨by rfl, fun w' hS => by have c := hS.1; go_simp⟩) ⟨M.out.c0, row_range MA.out.abs⟩ ?_
        try simp only [List.getElem_toArray, List.getElem_cons_succ, List.getElem_cons_zero, Act.put, List.setIfInBounds_toArray, List.set_cons_zero, List.set_cons_succ]
        refine anyT_take [15, 16, 17, 18, 19, 20, 21, 22, 23, 24, 25, 26, 27, 28, 29, 30] (i := 13) (v := .string K) rfl (by kernel_rfl) (by kernel_rfl) (by kernel_rfl) (fun _ _ _ h => h) (by kernel_rfl) (Or.inl ⟨by rfl, fun w' _ => by have hK0 := HK.out; go_simp⟩) ⟨M.out.c0, row_range MA.out.abs⟩ ?_
        try simp only [List.getElem_toArray, List.getElem_cons_succ, List.getElem_cons_zero, Act.put, List.setIfInBounds_toArray, List.set_cons_zero, List.set_cons_succ]
        refine anyT_take [15, 16, 17, 18, 19, 20, 21, 22, 23, 24, 25, 26, 27, 28, 29, 30] (i := 14) (v := .agg #[.slice b1 NL.length d1, .slice b2 NR.length d2]) rfl (by kernel_rfl) (by kernel_rfl) (by kernel_rfl) (fun _ _ _ h => h) (by kernel_rfl) (row_yields' (by rfl) 62 (.tmp 11) rfl g11 0 rfl _ _ (fun _ h => h.2) Tryd.underlying62 rfl (by kernel_rfl)) ⟨M.out.c0, row_range MA.out.abs⟩ ?_
        try simp only [List.getElem_toArray, List.getElem_cons_succ, List.getElem_cons_zero, Act.put, List.setIfInBounds_toArray, List.set_cons_zero, List.set_cons_succ]
        refine anyT_one (i := 7) (by kernel_rfl) rfl (fun K hK => ?_)
        rw [if_pos (by rfl)]
        try simp only [List.getElem_toArray, List.getElem_cons_succ, List.getElem_cons_zero]
        (go_simp; refine (HRT.out _ (HE4.out.below M.out.below HE4.out.lt) M.out.tree).mono ?_; rintro e w13 ⟨rfl, hb⟩; replace M := Lib.hid (M.out.call hb); replace MA := Lib.hid (MA.out.call hb); clear hb)
        refine hK _ _ (fun _ => ⟨M.out.c0, row_range MA.out.abs⟩) ?_
        clear hK K
        try simp only [List.getElem_toArray, List.getElem_cons_succ, List.getElem_cons_zero, Act.put, List.setIfInBounds_toArray, List.set_cons_zero, List.set_cons_succ]
        refine anyT_one (i := 15) (by kernel_rfl) rfl (fun K hK => ?_)
        rw [if_pos (by rfl)]
        try simp only [List.getElem_toArray, List.getElem_cons_succ, List.getElem_cons_zero]
        (go_simp; refine (HVN.out _ _ _ (HE4.out.below M.out.below HE4.out.lt) MA.out.l MA.out.r).mono ?_; rintro e w14 ⟨rfl, hb⟩; replace M := Lib.hid (M.out.call hb); replace MA := Lib.hid (MA.out.call hb); clear hb)
        refine hK _ _ (fun _ => ⟨M.out.c0, row_range MA.out.abs⟩) ?_
        clear hK K
        try simp only [List.getElem_toArray, List.getElem_cons_succ, List.getElem_cons_zero, Act.put, List.setIfInBounds_toArray, List.set_cons_zero, List.set_cons_succ]
        refine anyT_takeY (i := 16) (v := .bool false) rfl (by kernel_rfl) (by kernel_rfl) (by kernel_rfl) (fun _ _ _ h => h) (by kernel_rfl) (Or.inl ⟨by rfl, by intro w; go_simp⟩) ?_
        try simp only [List.getElem_toArray, List.getElem_cons_succ, List.getElem_cons_zero, Act.put, List.setIfInBounds_toArray, List.set_cons_zero, List.set_cons_succ]
        refine anyT_takeY (i := 17) (v := .bool false) rfl (by kernel_rfl) (by kernel_rfl) (by kernel_rfl) (fun _ _ _ h => h) (by kernel_rfl) (Or.inl ⟨by rfl, by intro w; go_simp⟩) ?_
        try simp only [List.getElem_toArray, List.getElem_cons_succ, List.getElem_cons_zero, Act.put, List.setIfInBounds_toArray, List.set_cons_zero, List.set_cons_succ]
        refine anyT_takeY (i := 18) (v := .bool false) rfl (by kernel_rfl) (by kernel_rfl) (by kernel_rfl) (fun _ _ _ h => h) (by kernel_rfl) (Or.inl ⟨by rfl, by intro w; go_simp⟩) ?_
        try simp only [List.getElem_toArray, List.getElem_cons_succ, List.getElem_cons_zero, Act.put, List.setIfInBounds_toArray, List.set_cons_zero, List.set_cons_succ]
        refine anyT_takeY (i := 19) (v := .pointer p) rfl (by kernel_rfl) (by kernel_rfl) (by kernel_rfl) (fun _ _ _ h => h) (by kernel_rfl) (Or.inl ⟨by rfl, by intro w; go_simp⟩) ?_
        try simp only [List.getElem_toArray, List.getElem_cons_succ, List.getElem_cons_zero, Act.put, List.setIfInBounds_toArray, List.set_cons_zero, List.set_cons_succ]
        refine anyT_takeY (i := 21) (v := .slice (some ⟨b, off, none⟩) L.length vc) rfl (by kernel_rfl) (by kernel_rfl) (by kernel_rfl) (fun _ _ _ h => h) (by kernel_rfl) (Or.inl ⟨by rfl, by intro w; go_simp⟩) ?_
        try simp only [List.getElem_toArray, List.getElem_cons_succ, List.getElem_cons_zero, Act.put, List.setIfInBounds_toArray, List.set_cons_zero, List.set_cons_succ]
        refine anyT_takeY (i := 22) (v := .int .i64 (k : Int)) rfl (by kernel_rfl) (by kernel_rfl) (by kernel_rfl) (fun _ _ _ h => h) (by kernel_rfl) (Or.inl ⟨by rfl, by intro w; go_simp⟩) ?_
        try simp only [List.getElem_toArray, List.getElem_cons_succ, List.getElem_cons_zero, Act.put, List.setIfInBounds_toArray, List.set_cons_zero, List.set_cons_succ]
        refine anyT_take [24, 25, 27, 28, 29, 30] (i := 23) (v := .pointer (some ⟨b, off + k * 2, none⟩)) rfl (by kernel_rfl) (by kernel_rfl) (by kernel_rfl) (fun _ _ _ h => h) (by kernel_rfl) (Or.inl ⟨by rfl, fun w' _ => by go_simp⟩) ⟨M.out.c0, row_range MA.out.abs⟩ ?_
        try simp only [List.getElem_toArray, List.getElem_cons_succ, List.getElem_cons_zero, Act.put, List.setIfInBounds_toArray, List.set_cons_zero, List.set_cons_succ]
        refine anyT_take [25, 27, 28, 29, 30] (i := 24) (v := .pointer (some ⟨b, off + k * 2, none⟩)) rfl (by kernel_rfl) (by kernel_rfl) (by kernel_rfl) (fun _ _ _ h => h) (by kernel_rfl) (Or.inl ⟨by rfl, fun w' _ => by go_simp⟩) ⟨M.out.c0, row_range MA.out.abs⟩ ?_
        try simp only [List.getElem_toArray, List.getElem_cons_succ, List.getElem_cons_zero, Act.put, List.setIfInBounds_toArray, List.set_cons_zero, List.set_cons_succ]
        refine anyT_take [27, 28, 29, 30] (i := 25) (v := .string key) rfl (by kernel_rfl) (by kernel_rfl) (by kernel_rfl) (fun _ _ _ h => h) (by kernel_rfl) (Or.inl ⟨by rfl, fun w' hS => by have c := hS.1; go_simp⟩) ⟨M.out.c0, row_range MA.out.abs⟩ ?_
        try simp only [List.getElem_toArray, List.getElem_cons_succ, List.getElem_cons_zero, Act.put, List.setIfInBounds_toArray, List.set_cons_zero, List.set_cons_succ]
        refine anyT_take [27, 28, 29, 30] (i := 26) (v := .agg #[.slice b1 NL.length d1, .slice b2 NR.length d2]) rfl (by kernel_rfl) (by kernel_rfl) (by kernel_rfl) (fun _ _ _ h => h) (by kernel_rfl) (row_yields' (by rfl) 62 (.tmp 11) rfl g11 0 rfl _ _ (fun _ h => h.2) Tryd.underlying62 rfl (by kernel_rfl)) ⟨M.out.c0, row_range MA.out.abs⟩ ?_
        try simp only [List.getElem_toArray, List.getElem_cons_succ, List.getElem_cons_zero, Act.put, List.setIfInBounds_toArray, List.set_cons_zero, List.set_cons_succ]
        refine anyT_one (i := 20) (by kernel_rfl) rfl (fun K hK => ?_)
        rw [if_pos (by rfl)]
        try simp only [List.getElem_toArray, List.getElem_cons_succ, List.getElem_cons_zero]
        (go_simp; refine (HRT.out _ (HE4.out.below M.out.below HE4.out.lt) M.out.tree).mono ?_; rintro e w15 ⟨rfl, hb⟩; replace M := Lib.hid (M.out.call hb); replace MA := Lib.hid (MA.out.call hb); clear hb)
        refine hK _ _ (fun _ => ⟨M.out.c0, row_range MA.out.abs⟩) ?_
        clear hK K
        try simp only [List.getElem_toArray, List.getElem_cons_succ, List.getElem_cons_zero, Act.put, List.setIfInBounds_toArray, List.set_cons_zero, List.set_cons_succ]
        refine anyT_one (i := 27) (by kernel_rfl) rfl (fun K hK => ?_)
        rw [if_pos (by rfl)]
        try simp only [List.getElem_toArray, List.getElem_cons_succ, List.getElem_cons_zero]
        (go_simp; refine (HVK.out _ _ _ (HE4.out.below M.out.below HE4.out.lt) MA.out.l MA.out.r).mono ?_; rintro e w16 ⟨rfl, hb⟩; replace M := Lib.hid (M.out.call hb); replace MA := Lib.hid (MA.out.call hb); clear hb)
        refine hK _ _ (fun _ => ⟨M.out.c0, row_range MA.out.abs⟩) ?_
        clear hK K
        try simp only [List.getElem_toArray, List.getElem_cons_succ, List.getElem_cons_zero, Act.put, List.setIfInBounds_toArray, List.set_cons_zero, List.set_cons_succ]
        refine anyT_takeY (i := 28) (v := .bool false) rfl (by kernel_rfl) (by kernel_rfl) (by kernel_rfl) (fun _ _ _ h => h) (by kernel_rfl) (Or.inl ⟨by rfl, by intro w; go_simp⟩) ?_
        try simp only [List.getElem_toArray, List.getElem_cons_succ, List.getElem_cons_zero, Act.put, List.setIfInBounds_toArray, List.set_cons_zero, List.set_cons_succ]
        refine anyT_takeY (i := 29) (v := .bool false) rfl (by kernel_rfl) (by kernel_rfl) (by kernel_rfl) (fun _ _ _ h => h) (by kernel_rfl) (Or.inl ⟨by rfl, by intro w; go_simp⟩) ?_
        try simp only [List.getElem_toArray, List.getElem_cons_succ, List.getElem_cons_zero, Act.put, List.setIfInBounds_toArray, List.set_cons_zero, List.set_cons_succ]
        refine anyT_takeY (i := 30) (v := .bool false) rfl (by kernel_rfl) (by kernel_rfl) (by kernel_rfl) (fun _ _ _ h => h) (by kernel_rfl) (Or.inl ⟨by rfl, by intro w; go_simp⟩) ?_
        try simp only [List.getElem_toArray, List.getElem_cons_succ, List.getElem_cons_zero, Act.put, List.setIfInBounds_toArray, List.set_cons_zero, List.set_cons_succ]
        refine anyT_done (by kernel_rfl) ?_ _
        have M2 := Lib.hid M.out.below
        go_wp2_with (fail)
        go_roundw
        case rel => exact ⟨k + 1, by omega, by go_num, M2⟩
        case measure => simp [intOf]; omega
      | some z =>
        have HNO := Lib.hid (fun w h => none_in (.pointer p) t K (by rw [hgk]; rfl) hm1 (by omega) w h)
        unfold NoIn at HNO
        rw [hgk] at HGC
        obtain ⟨Z, hZ⟩ : ∃ Z, Z = strO (some z) := ⟨_, rfl⟩
        rw [← hZ] at HGC
        clear hZ
        clear hex hve hzP hP hfd hgd hm1 hkb hK hfl hR hgk hx hx' hkv hbl hbw p0 p1
        have c0 := M.out.c0
        go_upto_region 7 with (first
          | (go_at_call 20; (with_reducible refine (HXC.out _ M.out.tree).mono ?_); rintro e w5 ⟨sa, sc, rfl, hst, hb⟩; have HST := Lib.hid hst; replace M := Lib.hid (M.out.call hb); clear hst hb)
          | (refine wpList_store_row rfl 52 (.tmp 7) (.tmp 36) rfl w5.heap.size (prC P (.slice sa P.steps.length sc)) rfl rfl 52 _ (heap_alloc_new _ _) (by kernel_rfl) rfl (prC_one _ _ _ _) ?_; rw [World.setRow_alloc_new]))
        have hb2 := below_alloc w5 (.cells (prC P (.slice sa P.steps.length sc)) 52)
        have MP := Lib.hid (show AlP (w5.alloc (.cells (prC P (.slice sa P.steps.length sc)) 52)) w5.heap.size P (.slice sa P.steps.length sc) from ⟨heap_alloc_new _ _, HST.out.below hb2⟩)
        replace M := Lib.hid (M.out.call hb2)
        obtain ⟨g7, hg7⟩ : ∃ g, g = w5.heap.size := ⟨_, rfl⟩
        rw [← hg7] at MP ⊢
        clear hg7 hb2 HST c0
        generalize w5.alloc (.cells (prC P (.slice sa P.steps.length sc)) 52) = w5' at *
        have c0 := M.out.c0
        go_upto_region 8 with (first
          | (go_at_call 22; (with_reducible refine (HNC.out _ M.out.tree).mono ?_); rintro e w6 ⟨a1, c1, a2, c2, rfl, hb⟩; replace M := Lib.hid (M.out.call hb); replace MP := Lib.hid (MP.out.call hb); clear hb)
          | (refine wpList_store_row rfl 62 (.tmp 9) (.tmp 46) rfl w6.heap.size #[.slice a1 0 c1, .slice a2 0 c2] rfl rfl 62 _ (heap_alloc_new _ _) (by kernel_rfl) rfl (by simp [Value.oneCell']) ?_; rw [World.setRow_alloc_new]))
        have hb := below_alloc w6 (.cells #[.slice a1 0 c1, .slice a2 0 c2] 62)
        replace M := Lib.hid (M.out.call hb); replace MP := Lib.hid (MP.out.call hb)
        clear hb c0
        generalize w6.alloc (.cells #[.slice a1 0 c1, .slice a2 0 c2] 62) = w6' at *
        have c0 := M.out.c0
        have hK0 := HK.out
        go_upto_region 9 with (first
          | (go_at_call 22; (with_reducible refine (HNO.out _ M.out.tree).mono ?_); rintro e w7 ⟨b1, d1, b2, d2, rfl, hb⟩; replace M := Lib.hid (M.out.call hb); replace MP := Lib.hid (MP.out.call hb); clear hb)
          | (refine wpList_store_row rfl 62 (.tmp 11) (.tmp 57) rfl w7.heap.size #[.slice b1 0 d1, .slice b2 0 d2] rfl rfl 62 _ (heap_alloc_new _ _) (by kernel_rfl) rfl (by simp [Value.oneCell']) ?_; rw [World.setRow_alloc_new]))
        have hb := below_alloc w7 (.cells #[.slice b1 0 d1, .slice b2 0 d2] 62)
        replace M := Lib.hid (M.out.call hb); replace MP := Lib.hid (MP.out.call hb)
        clear hb c0 hK0
        generalize w7.alloc (.cells #[.slice b1 0 d1, .slice b2 0 d2] 62) = w7 at *
        refine wp_region_T (fun w' => (w'.cell? ⟨b, off + k * 2, none⟩ = some (.string key) ∧ w'.cell? ⟨b, off + k * 2 + 1, none⟩ = some (.string val)) ∧ w'.rangeAt g7 0 (prC P (.slice sa P.steps.length sc)).toList) [4, 7, 8, 9, 12, 13, 14, 15, 16, 21] (by kernel_rfl) ?_
        replace MP := Lib.hid (MP.out.call (Below.refl _ _).drew)
        replace M := Lib.hid (M.out.call (Below.refl _ _).drew)
        generalize w7.drew = w8 at *
        refine anyT_takeY (i := 0) (v := .nilIface) rfl (by kernel_rfl) (by kernel_rfl) (by kernel_rfl) (fun _ _ _ h => h) (by kernel_rfl) (Or.inl ⟨by rfl, by intro w; go_simp⟩) ?_
        try simp only [List.getElem_toArray, List.getElem_cons_succ, List.getElem_cons_zero, Act.put, List.setIfInBounds_toArray, List.set_cons_zero, List.set_cons_succ]
        refine anyT_takeY (i := 1) (v := .bool false) rfl (by kernel_rfl) (by kernel_rfl) (by kernel_rfl) (fun _ _ _ h => h) (by kernel_rfl) (Or.inl ⟨by rfl, by intro w; go_simp⟩) ?_
        try simp only [List.getElem_toArray, List.getElem_cons_succ, List.getElem_cons_zero, Act.put, List.setIfInBounds_toArray, List.set_cons_zero, List.set_cons_succ]
        refine anyT_takeY (i := 2) (v := .bool false) rfl (by kernel_rfl) (by kernel_rfl) (by kernel_rfl) (fun _ _ _ h => h) (by kernel_rfl) (Or.inl ⟨by rfl, by intro w; go_simp⟩) ?_
        try simp only [List.getElem_toArray, List.getElem_cons_succ, List.getElem_cons_zero, Act.put, List.setIfInBounds_toArray, List.set_cons_zero, List.set_cons_succ]
        refine anyT_takeY (i := 3) (v := .pointer p) rfl (by kernel_rfl) (by kernel_rfl) (by kernel_rfl) (fun _ _ _ h => h) (by kernel_rfl) (Or.inl ⟨by rfl, by intro w; go_simp⟩) ?_
        try simp only [List.getElem_toArray, List.getElem_cons_succ, List.getElem_cons_zero, Act.put, List.setIfInBounds_toArray, List.set_cons_zero, List.set_cons_succ]
        refine anyT_takeY (i := 5) (v := .slice (some ⟨b, off, none⟩) L.length vc) rfl (by kernel_rfl) (by kernel_rfl) (by kernel_rfl) (fun _ _ _ h => h) (by kernel_rfl) (Or.inl ⟨by rfl, by intro w; go_simp⟩) ?_
        try simp only [List.getElem_toArray, List.getElem_cons_succ, List.getElem_cons_zero, Act.put, List.setIfInBounds_toArray, List.set_cons_zero, List.set_cons_succ]
        refine anyT_takeY (i := 6) (v := .int .i64 (k : Int)) rfl (by kernel_rfl) (by kernel_rfl) (by kernel_rfl) (fun _ _ _ h => h) (by kernel_rfl) (Or.inl ⟨by rfl, by intro w; go_simp⟩) ?_
        try simp only [List.getElem_toArray, List.getElem_cons_succ, List.getElem_cons_zero, Act.put, List.setIfInBounds_toArray, List.set_cons_zero, List.set_cons_succ]
        refine anyT_takeY (i := 10) (v := .slice (some ⟨b, off, none⟩) L.length vc) rfl (by kernel_rfl) (by kernel_rfl) (by kernel_rfl) (fun _ _ _ h => h) (by kernel_rfl) (Or.inl ⟨by rfl, by intro w; go_simp⟩) ?_
        try simp only [List.getElem_toArray, List.getElem_cons_succ, List.getElem_cons_zero, Act.put, List.setIfInBounds_toArray, List.set_cons_zero, List.set_cons_succ]
        refine anyT_takeY (i := 11) (v := .int .i64 (k : Int)) rfl (by kernel_rfl) (by kernel_rfl) (by kernel_rfl) (fun _ _ _ h => h) (by kernel_rfl) (Or.inl ⟨by rfl, by intro w; go_simp⟩) ?_
        try simp only [List.getElem_toArray, List.getElem_cons_succ, List.getElem_cons_zero, Act.put, List.setIfInBounds_toArray, List.set_cons_zero, List.set_cons_succ]
        refine anyT_take [8, 9, 16, 17, 18, 19, 20, 21, 22, 23] (i := 7) (v := .pointer (some ⟨b, off + k * 2, none⟩)) rfl (by kernel_rfl) (by kernel_rfl) (by kernel_rfl) (fun _ _ _ h => h) (by kernel_rfl) (Or.inl ⟨by rfl, fun w' _ => by go_simp⟩) ⟨⟨M.out.c0, M.out.c1⟩, row_range MP.out.prf⟩ ?_
        try simp only [List.getElem_toArray, List.getElem_cons_succ, List.getElem_cons_zero, Act.put, List.setIfInBounds_toArray, List.set_cons_zero, List.set_cons_succ]
        refine anyT_take [9, 16, 17, 18, 19, 20, 21, 22, 23] (i := 8) (v := .pointer (some ⟨b, off + k * 2, none⟩)) rfl (by kernel_rfl) (by kernel_rfl) (by kernel_rfl) (fun _ _ _ h => h) (by kernel_rfl) (Or.inl ⟨by rfl, fun w' _ => by go_simp⟩) ⟨⟨M.out.c0, M.out.c1⟩, row_range MP.out.prf⟩ ?_
        try simp only [List.getElem_toArray, List.getElem_cons_succ, List.getElem_cons_zero, Act.put, List.setIfInBounds_toArray, List.set_cons_zero, List.set_cons_succ]
        refine anyT_take [13, 14, 16, 17, 18, 19, 20, 21, 22, 23] (i := 12) (v := .pointer (some ⟨b, off + k * 2, none⟩)) rfl (by kernel_rfl) (by kernel_rfl) (by kernel_rfl) (fun _ _ _ h => h) (by kernel_rfl) (Or.inl ⟨by rfl, fun w' _ => by go_simp⟩) ⟨⟨M.out.c0, M.out.c1⟩, row_range MP.out.prf⟩ ?_
        try simp only [List.getElem_toArray, List.getElem_cons_succ, List.getElem_cons_zero, Act.put, List.setIfInBounds_toArray, List.set_cons_zero, List.set_cons_succ]
        refine anyT_take [14, 16, 17, 18, 19, 20, 21, 22, 23] (i := 13) (v := .pointer (some ⟨b, off + k * 2 + 1, none⟩)) rfl (by kernel_rfl) (by kernel_rfl) (by kernel_rfl) (fun _ _ _ h => h) (by kernel_rfl) (Or.inl ⟨by rfl, fun w' _ => by go_simp⟩) ⟨⟨M.out.c0, M.out.c1⟩, row_range MP.out.prf⟩ ?_
        try simp only [List.getElem_toArray, List.getElem_cons_succ, List.getElem_cons_zero, Act.put, List.setIfInBounds_toArray, List.set_cons_zero, List.set_cons_succ]
        refine anyT_take [16, 17, 18, 19, 20, 21, 22, 23] (i := 9) (v := .string key) rfl (by kernel_rfl) (by kernel_rfl) (by kernel_rfl) (fun _ _ _ h => h) (by kernel_rfl) (Or.inl ⟨by rfl, fun w' hS => by have c := hS.1.1; go_simp⟩) ⟨⟨M.out.c0, M.out.c1⟩, row_range MP.out.prf⟩ ?_
        try simp only [List.getElem_toArray, List.getElem_cons_succ, List.getElem_cons_zero, Act.put, List.setIfInBounds_toArray, List.set_cons_zero, List.set_cons_succ]
        refine anyT_take [16, 17, 18, 19, 20, 21, 22, 23] (i := 14) (v := .string val) rfl (by kernel_rfl) (by kernel_rfl) (by kernel_rfl) (fun _ _ _ h => h) (by kernel_rfl) (Or.inl ⟨by rfl, fun w' hS => by have c := hS.1.2; go_simp⟩) ⟨⟨M.out.c0, M.out.c1⟩, row_range MP.out.prf⟩ ?_
        try simp only [List.getElem_toArray, List.getElem_cons_succ, List.getElem_cons_zero, Act.put, List.setIfInBounds_toArray, List.set_cons_zero, List.set_cons_succ]
        refine anyT_take [16, 17, 18, 19, 20, 21, 22, 23] (i := 15) (v := .agg (prC P (.slice sa P.steps.length sc))) rfl (by kernel_rfl) (by kernel_rfl) (by kernel_rfl) (fun _ _ _ h => h) (by kernel_rfl) (row_yields' (by rfl) 52 (.tmp 7) rfl g7 0 rfl _ _ (fun _ h => h.2) Tryd.underlying52 rfl (by kernel_rfl)) ⟨⟨M.out.c0, M.out.c1⟩, row_range MP.out.prf⟩ ?_
        try simp only [List.getElem_toArray, List.getElem_cons_succ, List.getElem_cons_zero, Act.put, List.setIfInBounds_toArray, List.set_cons_zero, List.set_cons_succ]
        refine anyT_one (i := 4) (by kernel_rfl) rfl (fun K hK => ?_)
        rw [if_pos (by rfl)]
        try simp only [List.getElem_toArray, List.getElem_cons_succ, List.getElem_cons_zero]
        (go_simp; refine (HRT.out _ (HE4.out.below M.out.below HE4.out.lt) M.out.tree).mono ?_; rintro e w9 ⟨rfl, hb⟩; replace M := Lib.hid (M.out.call hb); replace MP := Lib.hid (MP.out.call hb); clear hb)
        refine hK _ _ (fun _ => ⟨⟨M.out.c0, M.out.c1⟩, row_range MP.out.prf⟩) ?_
        clear hK K
        try simp only [List.getElem_toArray, List.getElem_cons_succ, List.getElem_cons_zero, Act.put, List.setIfInBounds_toArray, List.set_cons_zero, List.set_cons_succ]
        refine anyT_one (i := 16) (by kernel_rfl) rfl (fun K hK => ?_)
        rw [if_pos (by rfl)]
        try simp only [List.getElem_toArray, List.getElem_cons_succ, List.getElem_cons_zero]
        (go_simp; refine (HV1.out _ _ (HE4.out.below M.out.below HE4.out.lt) MP.out.st).mono ?_; rintro e w10 ⟨rfl, hb⟩; replace M := Lib.hid (M.out.call hb); replace MP := Lib.hid (MP.out.call hb); clear hb)
        refine hK _ _ (fun _ => ⟨⟨M.out.c0, M.out.c1⟩, row_range MP.out.prf⟩) ?_
        clear hK K
        try simp only [List.getElem_toArray, List.getElem_cons_succ, List.getElem_cons_zero, Act.put, List.setIfInBounds_toArray, List.set_cons_zero, List.set_cons_succ]
        refine anyT_takeY (i := 17) (v := .bool false) rfl (by kernel_rfl) (by kernel_rfl) (by kernel_rfl) (fun _ _ _ h => h) (by kernel_rfl) (Or.inl ⟨by rfl, by intro w; go_simp⟩) ?_
        try simp only [List.getElem_toArray, List.getElem_cons_succ, List.getElem_cons_zero, Act.put, List.setIfInBounds_toArray, List.set_cons_zero, List.set_cons_succ]
        refine anyT_takeY (i := 18) (v := .bool false) rfl (by kernel_rfl) (by kernel_rfl) (by kernel_rfl) (fun _ _ _ h => h) (by kernel_rfl) (Or.inl ⟨by rfl, by intro w; go_simp⟩) ?_
        try simp only [List.getElem_toArray, List.getElem_cons_succ, List.getElem_cons_zero, Act.put, List.setIfInBounds_toArray, List.set_cons_zero, List.set_cons_succ]
        refine anyT_takeY (i := 19) (v := .bool false) rfl (by kernel_rfl) (by kernel_rfl) (by kernel_rfl) (fun _ _ _ h => h) (by kernel_rfl) (Or.inl ⟨by rfl, by intro w; go_simp⟩) ?_
        try simp only [List.getElem_toArray, List.getElem_cons_succ, List.getElem_cons_zero, Act.put, List.setIfInBounds_toArray, List.set_cons_zero, List.set_cons_succ]
        refine anyT_takeY (i := 20) (v := .iface 95 (.int .i64 9)) rfl (by kernel_rfl) (by kernel_rfl) (by kernel_rfl) (fun _ _ _ h => h) (by kernel_rfl) (Or.inl ⟨by rfl, by intro w; go_simp⟩) ?_
        try simp only [List.getElem_toArray, List.getElem_cons_succ, List.getElem_cons_zero, Act.put, List.setIfInBounds_toArray, List.set_cons_zero, List.set_cons_succ]
        refine anyT_one (i := 21) (by kernel_rfl) rfl (fun K hK => ?_)
        rw [if_pos (by rfl)]
        try simp only [List.getElem_toArray, List.getElem_cons_succ, List.getElem_cons_zero]
        (go_simp; refine (HNU.out _ (HG4.out.below M.out.below)).mono ?_; rintro e w11 ⟨rfl, hb⟩; replace M := Lib.hid (M.out.call hb); replace MP := Lib.hid (MP.out.call hb); clear hb)
        refine hK _ _ (fun _ => ⟨⟨M.out.c0, M.out.c1⟩, row_range MP.out.prf⟩) ?_
        clear hK K
        try simp only [List.getElem_toArray, List.getElem_cons_succ, List.getElem_cons_zero, Act.put, List.setIfInBounds_toArray, List.set_cons_zero, List.set_cons_succ]
        refine anyT_takeY (i := 22) (v := .bool false) rfl (by kernel_rfl) (by kernel_rfl) (by kernel_rfl) (fun _ _ _ h => h) (by kernel_rfl) (Or.inl ⟨by rfl, by intro w; go_simp⟩) ?_
        try simp only [List.getElem_toArray, List.getElem_cons_succ, List.getElem_cons_zero, Act.put, List.setIfInBounds_toArray, List.set_cons_zero, List.set_cons_succ]
        refine anyT_takeY (i := 23) (v := .bool false) rfl (by kernel_rfl) (by kernel_rfl) (by kernel_rfl) (fun _ _ _ h => h) (by kernel_rfl) (Or.inl ⟨by rfl, by intro w; go_simp⟩) ?_
        try simp only [List.getElem_toArray, List.getElem_cons_succ, List.getElem_cons_zero, Act.put, List.setIfInBounds_toArray, List.set_cons_zero, List.set_cons_succ]
        refine anyT_done (by kernel_rfl) ?_ _
        have c0 := M.out.c0
        have hK0 := HK.out
        go_upto_region 12 with (first
          | (go_at_call 34; (with_reducible refine (HGC.out _ M.out.tree).mono ?_); rintro e w' ⟨rfl, rfl⟩))
        clear c0 hK0 MP
        refine wp_region_T (fun _ => True) [] (by kernel_rfl) ?_
        replace M := Lib.hid (M.out.call (Below.refl _ _).drew)
        generalize w11.drew = w16 at *
        refine anyT_takeY (i := 0) (v := .bool true) rfl (by kernel_rfl) (by kernel_rfl) (by kernel_rfl) (fun _ _ _ h => h) (by kernel_rfl) (Or.inl ⟨by rfl, by intro w; go_simp⟩) ?_
        try simp only [List.getElem_toArray, List.getElem_cons_succ, List.getElem_cons_zero, Act.put, List.setIfInBounds_toArray, List.set_cons_zero, List.set_cons_succ]
        refine anyT_takeY (i := 1) (v := .bool false) rfl (by kernel_rfl) (by kernel_rfl) (by kernel_rfl) (fun _ _ _ h => h) (by kernel_rfl) (Or.inl ⟨by rfl, by intro w; go_simp⟩) ?_
        try simp only [List.getElem_toArray, List.getElem_cons_succ, List.getElem_cons_zero, Act.put, List.setIfInBounds_toArray, List.set_cons_zero, List.set_cons_succ]
        refine anyT_takeY (i := 2) (v := .bool false) rfl (by kernel_rfl) (by kernel_rfl) (by kernel_rfl) (fun _ _ _ h => h) (by kernel_rfl) (Or.inl ⟨by rfl, by intro w; go_simp⟩) ?_
        try simp only [List.getElem_toArray, List.getElem_cons_succ, List.getElem_cons_zero, Act.put, List.setIfInBounds_toArray, List.set_cons_zero, List.set_cons_succ]
        refine anyT_takeY (i := 3) (v := undef) rfl (by kernel_rfl) (by kernel_rfl) (by kernel_rfl) (fun _ _ _ h => h) (by kernel_rfl) (Or.inr ⟨by rfl, rfl⟩) ?_
        try simp only [List.getElem_toArray, List.getElem_cons_succ, List.getElem_cons_zero, Act.put, List.setIfInBounds_toArray, List.set_cons_zero, List.set_cons_succ]
        refine anyT_takeY (i := 4) (v := undef) rfl (by kernel_rfl) (by kernel_rfl) (by kernel_rfl) (fun _ _ _ h => h) (by kernel_rfl) (Or.inr ⟨by rfl, rfl⟩) ?_
        try simp only [List.getElem_toArray, List.getElem_cons_succ, List.getElem_cons_zero, Act.put, List.setIfInBounds_toArray, List.set_cons_zero, List.set_cons_succ]
        refine anyT_takeY (i := 5) (v := undef) rfl (by kernel_rfl) (by kernel_rfl) (by kernel_rfl) (fun _ _ _ h => h) (by kernel_rfl) (Or.inr ⟨by rfl, rfl⟩) ?_
        try simp only [List.getElem_toArray, List.getElem_cons_succ, List.getElem_cons_zero, Act.put, List.setIfInBounds_toArray, List.set_cons_zero, List.set_cons_succ]
        refine anyT_takeY (i := 6) (v := undef) rfl (by kernel_rfl) (by kernel_rfl) (by kernel_rfl) (fun _ _ _ h => h) (by kernel_rfl) (Or.inr ⟨by rfl, rfl⟩) ?_
        try simp only [List.getElem_toArray, List.getElem_cons_succ, List.getElem_cons_zero, Act.put, List.setIfInBounds_toArray, List.set_cons_zero, List.set_cons_succ]
        refine anyT_takeY (i := 7) (v := undef) rfl (by kernel_rfl) (by kernel_rfl) (by kernel_rfl) (fun _ _ _ h => h) (by kernel_rfl) (Or.inr ⟨by rfl, rfl⟩) ?_
        try simp only [List.getElem_toArray, List.getElem_cons_succ, List.getElem_cons_zero, Act.put, List.setIfInBounds_toArray, List.set_cons_zero, List.set_cons_succ]
        refine anyT_takeY (i := 8) (v := undef) rfl (by kernel_rfl) (by kernel_rfl) (by kernel_rfl) (fun _ _ _ h => h) (by kernel_rfl) (Or.inr ⟨by rfl, rfl⟩) ?_
        try simp only [List.getElem_toArray, List.getElem_cons_succ, List.getElem_cons_zero, Act.put, List.setIfInBounds_toArray, List.set_cons_zero, List.set_cons_succ]
        refine anyT_takeY (i := 9) (v := undef) rfl (by kernel_rfl) (by kernel_rfl) (by kernel_rfl) (fun _ _ _ h => h) (by kernel_rfl) (Or.inr ⟨by rfl, rfl⟩) ?_
        try simp only [List.getElem_toArray, List.getElem_cons_succ, List.getElem_cons_zero, Act.put, List.setIfInBounds_toArray, List.set_cons_zero, List.set_cons_succ]
        refine anyT_takeY (i := 10) (v := undef) rfl (by kernel_rfl) (by kernel_rfl) (by kernel_rfl) (fun _ _ _ h => h) (by kernel_rfl) (Or.inr ⟨by rfl, rfl⟩) ?_
        try simp only [List.getElem_toArray, List.getElem_cons_succ, List.getElem_cons_zero, Act.put, List.setIfInBounds_toArray, List.set_cons_zero, List.set_cons_succ]
        refine anyT_takeY (i := 11) (v := undef) rfl (by kernel_rfl) (by kernel_rfl) (by kernel_rfl) (fun _ _ _ h => h) (by kernel_rfl) (Or.inr ⟨by rfl, rfl⟩) ?_
        try simp only [List.getElem_toArray, List.getElem_cons_succ, List.getElem_cons_zero, Act.put, List.setIfInBounds_toArray, List.set_cons_zero, List.set_cons_succ]
        refine anyT_takeY (i := 12) (v := undef) rfl (by kernel_rfl) (by kernel_rfl) (by kernel_rfl) (fun _ _ _ h => h) (by kernel_rfl) (Or.inr ⟨by rfl, rfl⟩) ?_
        try simp only [List.getElem_toArray, List.getElem_cons_succ, List.getElem_cons_zero, Act.put, List.setIfInBounds_toArray, List.set_cons_zero, List.set_cons_succ]
        refine anyT_takeY (i := 13) (v := undef) rfl (by kernel_rfl) (by kernel_rfl) (by kernel_rfl) (fun _ _ _ h => h) (by kernel_rfl) (Or.inr ⟨by rfl, rfl⟩) ?_
        try simp only [List.getElem_toArray, List.getElem_cons_succ, List.getElem_cons_zero, Act.put, List.setIfInBounds_toArray, List.set_cons_zero, List.set_cons_succ]
        refine anyT_takeY (i := 14) (v := undef) rfl (by kernel_rfl) (by kernel_rfl) (by kernel_rfl) (fun _ _ _ h => h) (by kernel_rfl) (Or.inr ⟨by rfl, rfl⟩) ?_
        try simp only [List.getElem_toArray, List.getElem_cons_succ, List.getElem_cons_zero, Act.put, List.setIfInBounds_toArray, List.set_cons_zero, List.set_cons_succ]
        refine anyT_takeY (i := 15) (v := undef) rfl (by kernel_rfl) (by kernel_rfl) (by kernel_rfl) (fun _ _ _ h => h) (by kernel_rfl) (Or.inr ⟨by rfl, rfl⟩) ?_
        try simp only [List.getElem_toArray, List.getElem_cons_succ, List.getElem_cons_zero, Act.put, List.setIfInBounds_toArray, List.set_cons_zero, List.set_cons_succ]
        refine anyT_takeY (i := 16) (v := undef) rfl (by kernel_rfl) (by kernel_rfl) (by kernel_rfl) (fun _ _ _ h => h) (by kernel_rfl) (Or.inr ⟨by rfl, rfl⟩) ?_
        try simp only [List.getElem_toArray, List.getElem_cons_succ, List.getElem_cons_zero, Act.put, List.setIfInBounds_toArray, List.set_cons_zero, List.set_cons_succ]
        refine anyT_takeY (i := 17) (v := undef) rfl (by kernel_rfl) (by kernel_rfl) (by kernel_rfl) (fun _ _ _ h => h) (by kernel_rfl) (Or.inr ⟨by rfl, rfl⟩) ?_
        try simp only [List.getElem_toArray, List.getElem_cons_succ, List.getElem_cons_zero, Act.put, List.setIfInBounds_toArray, List.set_cons_zero, List.set_cons_succ]
        refine anyT_takeY (i := 18) (v := undef) rfl (by kernel_rfl) (by kernel_rfl) (by kernel_rfl) (fun _ _ _ h => h) (by kernel_rfl) (Or.inr ⟨by rfl, rfl⟩) ?_
        try simp only [List.getElem_toArray, List.getElem_cons_succ, List.getElem_cons_zero, Act.put, List.setIfInBounds_toArray, List.set_cons_zero, List.set_cons_succ]
        refine anyT_takeY (i := 19) (v := undef) rfl (by kernel_rfl) (by kernel_rfl) (by kernel_rfl) (fun _ _ _ h => h) (by kernel_rfl) (Or.inr ⟨by rfl, rfl⟩) ?_
        try simp only [List.getElem_toArray, List.getElem_cons_succ, List.getElem_cons_zero, Act.put, List.setIfInBounds_toArray, List.set_cons_zero, List.set_cons_succ]
        refine anyT_takeY (i := 20) (v := undef) rfl (by kernel_rfl) (by kernel_rfl) (by kernel_rfl) (fun _ _ _ h => h) (by kernel_rfl) (Or.inr ⟨by rfl, rfl⟩) ?_
        try simp only [List.getElem_toArray, List.getElem_cons_succ, List.getElem_cons_zero, Act.put, List.setIfInBounds_toArray, List.set_cons_zero, List.set_cons_succ]
        refine anyT_takeY (i := 21) (v := undef) rfl (by kernel_rfl) (by kernel_rfl) (by kernel_rfl) (fun _ _ _ h => h) (by kernel_rfl) (Or.inr ⟨by rfl, rfl⟩) ?_
        try simp only [List.getElem_toArray, List.getElem_cons_succ, List.getElem_cons_zero, Act.put, List.setIfInBounds_toArray, List.set_cons_zero, List.set_cons_succ]
        refine anyT_takeY (i := 22) (v := undef) rfl (by kernel_rfl) (by kernel_rfl) (by kernel_rfl) (fun _ _ _ h => h) (by kernel_rfl) (Or.inr ⟨by rfl, rfl⟩) ?_
        try simp only [List.getElem_toArray, List.getElem_cons_succ, List.getElem_cons_zero, Act.put, List.setIfInBounds_toArray, List.set_cons_zero, List.set_cons_succ]
        refine anyT_takeY (i := 23) (v := undef) rfl (by kernel_rfl) (by kernel_rfl) (by kernel_rfl) (fun _ _ _ h => h) (by kernel_rfl) (Or.inr ⟨by rfl, rfl⟩) ?_
        try simp only [List.getElem_toArray, List.getElem_cons_succ, List.getElem_cons_zero, Act.put, List.setIfInBounds_toArray, List.set_cons_zero, List.set_cons_succ]
        refine anyT_takeY (i := 24) (v := undef) rfl (by kernel_rfl) (by kernel_rfl) (by kernel_rfl) (fun _ _ _ h => h) (by kernel_rfl) (Or.inr ⟨by rfl, rfl⟩) ?_
        try simp only [List.getElem_toArray, List.getElem_cons_succ, List.getElem_cons_zero, Act.put, List.setIfInBounds_toArray, List.set_cons_zero, List.set_cons_succ]
        refine anyT_takeY (i := 25) (v := undef) rfl (by kernel_rfl) (by kernel_rfl) (by kernel_rfl) (fun _ _ _ h => h) (by kernel_rfl) (Or.inr ⟨by rfl, rfl⟩) ?_
        try simp only [List.getElem_toArray, List.getElem_cons_succ, List.getElem_cons_zero, Act.put, List.setIfInBounds_toArray, List.set_cons_zero, List.set_cons_succ]
        refine anyT_takeY (i := 26) (v := undef) rfl (by kernel_rfl) (by kernel_rfl) (by kernel_rfl) (fun _ _ _ h => h) (by kernel_rfl) (Or.inr ⟨by rfl, rfl⟩) ?_
        try simp only [List.getElem_toArray, List.getElem_cons_succ, List.getElem_cons_zero, Act.put, List.setIfInBounds_toArray, List.set_cons_zero, List.set_cons_succ]
        refine anyT_takeY (i := 27) (v := undef) rfl (by kernel_rfl) (by kernel_rfl) (by kernel_rfl) (fun _ _ _ h => h) (by kernel_rfl) (Or.inr ⟨by rfl, rfl⟩) ?_
        try simp only [List.getElem_toArray, List.getElem_cons_succ, List.getElem_cons_zero, Act.put, List.setIfInBounds_toArray, List.set_cons_zero, List.set_cons_succ]
        refine anyT_takeY (i := 28) (v := undef) rfl (by kernel_rfl) (by kernel_rfl) (by kernel_rfl) (fun _ _ _ h => h) (by kernel_rfl) (Or.inr ⟨by rfl, rfl⟩) ?_
        try simp only [List.getElem_toArray, List.getElem_cons_succ, List.getElem_cons_zero, Act.put, List.setIfInBounds_toArray, List.set_cons_zero, List.set_cons_succ]
        refine anyT_takeY (i := 29) (v := undef) rfl (by kernel_rfl) (by kernel_rfl) (by kernel_rfl) (fun _ _ _ h => h) (by kernel_rfl) (Or.inr ⟨by rfl, rfl⟩) ?_
        try simp only [List.getElem_toArray, List.getElem_cons_succ, List.getElem_cons_zero, Act.put, List.setIfInBounds_toArray, List.set_cons_zero, List.set_cons_succ]
        refine anyT_takeY (i := 30) (v := .bool false) rfl (by kernel_rfl) (by kernel_rfl) (by kernel_rfl) (fun _ _ _ h => h) (by kernel_rfl) (Or.inl ⟨by rfl, by intro w; go_simp⟩) ?_
        try simp only [List.getElem_toArray, List.getElem_cons_succ, List.getElem_cons_zero, Act.put, List.setIfInBounds_toArray, List.set_cons_zero, List.set_cons_succ]
        refine anyT_done (by kernel_rfl) ?_ _
        have M2 := Lib.hid M.out.below
        go_wp2_with (fail)
        go_roundw
        case rel => exact ⟨k + 1, by omega, by go_num, M2⟩
        case measure => simp [intOf]; omega
    · obtain rfl : k = L.length := by omega
      have hbw : Below w.heap.size w wr := HBT.out.trans (HKB.out.mono HBT.out.size)
      have HSU := Lib.hid (pvsure_any wr (HE.out.below hbw HE.out.lt) (HG.out.below hbw) (Nat.lt_of_lt_of_le HGL.out hbw.size))
      have HBW := Lib.hid hbw
      clear hbw
      go_wp2_with (go_at_call 27; (with_reducible refine HSU.out.mono ?_); rintro e w9 ⟨rfl, hb⟩; replace HBW := Lib.hid (HBW.out.trans (hb.mono HBW.out.size)); clear hb)
      go_ret
      exact ⟨rfl, HBW.out⟩
end Go.Proofs.YtfmfemmknccfmaaDoor

/- Part 48 of the proof. -/
import Derived.Test.YtadolfacjolbkaaDoorSh32
import Derived.Test.YtadolfacjolbkaaDoorSh36
import Derived.Test.YtadolfacjolbkaaDoorSh41
import Derived.Test.YtadolfacjolbkaaDoorSh42
import Derived.Test.YtadolfacjolbkaaDoorSh43
import Derived.Test.YtadolfacjolbkaaDoorSh46
import Derived.Test.YtadolfacjolbkaaDoorSh47
namespace Go.Proofs.YtadolfacjolbkaaDoor
set_option linter.unusedVariables false
set_option linter.unusedSimpArgs false
open Go.RowKit
set_option maxRecDepth 100000
set_option linter.unusedSimpArgs false
set_option linter.unusedVariables false
theorem treeO_ptr {w : World} {v : Value} {t : Option AvT} (h : TreeO w v t) : ∃ p, v = .pointer p := by
  cases t with
  | none => exact ⟨none, h⟩
  | some t => obtain ⟨g, e, _⟩ := h; exact ⟨_, e⟩
set_option maxHeartbeats 2000000 in
theorem lshapes_big (va vs vp : Value) (s : List Bool) (P : List KV) (w : World) (he : Env w) (hs : BlIn w vs s) (hp : KVIn w vp P) (h : 300 < s.length ∨ 200 < P.length) :
    Calls Tryd.prog 3 #[va, vs, vp] w fun e w' => e = .returned (.bool true) ∧ Below w.heap.size w w' := by
  obtain ⟨sa, sc, rfl⟩ := hs.len
  obtain ⟨pa, pc, rfl⟩ := hp.len
  have HSU := Lib.hid (avsure_any w he)
  clear he hs hp
  by_cases h1 : 300 < s.length
  · have h1' : (300 : Int) < (s.length : Int) := by omega
    clear h h1
    go_enter Tryd.func3, Tryd.ntmps3
    go_wp2_with (go_at_call 5; (with_reducible refine HSU.out.mono ?_); rintro e w1 ⟨rfl, hb⟩)
    go_ret
    exact ⟨rfl, hb⟩
  · have h1' : ¬ (300 : Int) < (s.length : Int) := by omega
    have h2' : (200 : Int) < (P.length : Int) := by omega
    clear h h1
    go_enter Tryd.func3, Tryd.ntmps3
    go_wp2_with (go_at_call 5; (with_reducible refine HSU.out.mono ?_); rintro e w1 ⟨rfl, hb⟩)
    go_ret
    exact ⟨rfl, hb⟩
set_option maxRecDepth 1000000 in
set_option maxHeartbeats 8000000 in
theorem lshapes_small (va vs vp : Value) (ts : List AvA) (s : List Bool) (P : List KV) (N : Nat) (w : World) (he : Env w) (hg : ErrType w) (hx : AvActs w va ts) (hk : ∀ t ∈ ts, t.kOk) (hz : ∀ t ∈ ts, t.key.size + t.val.size ≤ N) (hs : BlIn w vs s) (hp : KVIn w vp P) (hpz : ∀ p ∈ P, p.1.size + p.2.size ≤ 1048576) (hN : N ≤ 1048576) (h1 : s.length ≤ 300) (h2 : P.length ≤ 200) :
    Calls Tryd.prog 3 #[va, vs, vp] w fun e w' => e = .returned (.bool true) ∧ Below w.heap.size w w' := by
  have HGR := Lib.hid (grown_any va ts N w he hx hk hz hN)
  have HE := Lib.hid he
  have HET := Lib.hid hg
  have HNB := Lib.hid hN
  have M := Lib.hid (((Kp.start w).add (Y := fun w' => BlIn w' vs s) hs (fun a b h hb => h.below hb)).add (Y := fun w' => KVIn w' vp P) hp (fun a b h hb => h.below hb))
  obtain ⟨A, hA⟩ : ∃ A, A = buildA s P := ⟨_, rfl⟩
  have HBX := Lib.hid (fun (v : Value) w' (h : Env w') (h2' : BlIn w' v s) (h3 : KVIn w' vp P) => build_any v vp s P w' h h2' h3 (by omega) (by omega) (fun p hp => by have := hpz p hp; omega))
  have HBY := Lib.hid (fun w' (h2' : BlIn w' vs s) (h3 : KVIn w' vp P) => rbuild_any vs vp s P w' h2' h3 (by omega) (by omega))
  rw [← hA] at HBX HBY
  have hAp : ∀ p ∈ pairsO (A.getD none), p.1.size + p.2.size ≤ 1048576 := by
    intro p hp
    cases hA2 : A with
    | none => rw [hA2] at hp; cases hp
    | some t => rw [hA2, show (some t).getD none = t from rfl, buildA_pairs (hA.symm.trans hA2)] at hp; exact hpz p hp
  have hAm : manyO (A.getD none) ≤ 1048576 := by
    cases hA2 : A with
    | none => exact Nat.zero_le _
    | some t => rw [← manyO_eq, show (some t).getD none = t from rfl, buildA_pairs (hA.symm.trans hA2)]; omega
  have HRX := Lib.hid (fun w (he : Env w) (x : Value) (h : TreeO w x (A.getD none)) => root_any x (A.getD none) w he h)
  have HRY := Lib.hid (fun w (he : Env w) (cy : Array Value) (h : RO w cy (A.getD none)) => rRoot_any (A.getD none) cy w he h hAm hAp)
  obtain ⟨RX, hRX⟩ : ∃ R, R = rootO (A.getD none) := ⟨_, rfl⟩
  rw [← hRX] at HRX HRY
  obtain ⟨ef, hef⟩ : ∃ e, e = errA A := ⟨_, rfl⟩
  have HBY2 := Lib.hid (show ∀ w', BlIn w' vs s → KVIn w' vp P → Calls Tryd.prog 10 #[vs, vp] w' (fun e w'' => ∃ cs, e = .returned (.tuple #[.agg cs, .int .i64 (numE ef)]) ∧ RO w'' cs (A.getD none) ∧ Below w'.heap.size w' w'') from fun w' h1 h2 => by rw [hef]; exact HBY.out w' h1 h2)
  have HBX2 := Lib.hid (show ∀ (v : Value) w', Env w' → BlIn w' v s → KVIn w' vp P → Calls Tryd.prog 8 #[v, vp] w' (fun e w'' => ∃ x, e = .returned (.tuple #[x, errV ef]) ∧ TreeO w'' x (A.getD none) ∧ Below w'.heap.size w' w'') from fun v w' h1 h2 h3 => by rw [hef]; exact HBX.out v w' h1 h2 h3)
  obtain ⟨AT, hAT⟩ : ∃ T, T = A.getD none := ⟨_, rfl⟩
  rw [← hAT] at HRX HRY HBX2 HBY2
  have hq1 := fun w => eq32_self RX w
  clear HBX HBY hA hAp hAm hRX hef hAT
  obtain ⟨sa, sc, rfl⟩ := hs.len
  obtain ⟨pa, pc, rfl⟩ := hp.len
  have h1' : ¬ (300 : Int) < (s.length : Int) := by omega
  have h2' : ¬ (200 : Int) < (P.length : Int) := by omega
  have HSL := Lib.hid h1
  clear he hg hx hk hz hN hs hp hpz h1 h2
  unfold GrPost at HGR
  go_enter Tryd.func3, Tryd.ntmps3
  go_upto_region 4 with (first
    | (go_at_call 6; (with_reducible refine HGR.out.mono ?_); rintro e w1 ⟨v, cs, t, rfl, ht, hr, hg, hb⟩; have HT := Lib.hid ht; have HR := Lib.hid hr; have HG := Lib.hid hg; replace M := Lib.hid (M.out.call hb); have csZ := Lib.hid hr.size; have csO := Lib.hid hr.one; clear ht hr hg hb)
    | (refine wpList_store_row rfl 29 (.tmp 8) (.tmp 30) rfl w1.heap.size cs rfl rfl 29 _ (heap_alloc_new _ _) (by rw [csZ.out]; kernel_rfl) (by rw [csZ.out]; rfl) csO.out ?_; rw [World.setRow_alloc_new]))
  obtain ⟨p, rfl⟩ := treeO_ptr HT.out
  replace M := Lib.hid ((((M.out.new (.cells cs 29)).add (Y := fun w' => TreeO w' (.pointer p) t) (HT.out.below (below_alloc _ _)) (fun a b h hb => h.below hb)).add (Y := fun w' => w'.heap[w1.heap.size]? = some (.cells cs 29 (0, 0))) (heap_alloc_new _ _) (kept_blk _ _)).add (Y := fun w' => RO w' cs t) (HR.out.below (below_alloc _ _)) (fun a b h hb => h.below hb))
  obtain ⟨g8, hg8⟩ : ∃ g, g = w1.heap.size := ⟨_, rfl⟩
  rw [← hg8] at M ⊢
  clear hg8 HT HR h1' h2'
  generalize w1.alloc (.cells cs 29) = w2 at *
  have hsrt : Srt (pairsO t) := HG.out.srt
  have hmany : manyO t ≤ 60 := HG.out.many
  have hbal : balO t := HG.out.bal
  have HSH := Lib.hid (fun w h => shape_any (.pointer p) t w h (by omega))
  have HRS := Lib.hid (show ∀ w, RO w cs t → Calls Tryd.prog 12 #[.agg cs] w (fun e w' => ∃ v', e = .returned v' ∧ BlIn w' v' (shapeO t) ∧ Below w.heap.size w w') from fun w h => (rshape_any t cs w h (by omega)).mono fun e w' ⟨v', h1, h2, h3⟩ => ⟨v', h1, owns_bools h2 (by
    have : (shapeO t).length ≤ 1048576 := by
      cases t with
      | none => simp [shapeO]
      | some t => have := t.shape_len; have : t.many ≤ 60 := hmany; simp only [shapeO]; omega
    unfold maxLen; omega), h3⟩)
  have hshl : (shapeO t).length ≤ 1048576 := by
    cases t with
    | none => simp [shapeO]
    | some t => have := t.shape_len; have : t.many ≤ 60 := hmany; simp only [shapeO]; omega
  have HSHL := Lib.hid hshl
  have HRG := Lib.hid (show ∀ w, TreeO w (.pointer p) t → Calls Tryd.prog 9 #[.pointer p, .string { data := #[] }, .string { data := #[] }] w fun e w' => ∃ v, e = .returned v ∧ KVIn w' v (pairsO t) ∧ Below w.heap.size w w' from fun w h => by
    have := range_kv p t eBA eBA w h hsrt (by omega)
    rw [range_full hsrt] at this; exact this)
  have HBU := Lib.hid (show ∀ (v9 vr : Value) w', Env w' → BlIn w' v9 (shapeO t) → KVIn w' vr (pairsO t) → Calls Tryd.prog 8 #[v9, vr] w' (fun e w'' => ∃ u, e = .returned (.tuple #[u, .nilIface]) ∧ TreeO w'' u t ∧ Below w'.heap.size w' w'') from fun v9 vr w' h1 h2 h3 => by
    have := build_any v9 vr (shapeO t) (pairsO t) w' h1 h2 h3 hshl (by rw [manyO_eq]; omega) (fun q hq => by have := HG.out.size q hq; have := HNB.out; omega)
    rw [buildA_own hbal hsrt] at this; exact this)
  have HRT := Lib.hid (fun w he (v : Value) (h : TreeO w v t) => root_any v t w he h)
  obtain ⟨RT', hRT⟩ : ∃ R, R = rootO t := ⟨_, rfl⟩
  rw [← hRT] at HRT
  have hq2 := fun w => eq32_self RT' w
  have HLT := Lib.hid (fun w (v : Value) (h : TreeO w v t) => len_any w h)
  obtain ⟨mt, hmt⟩ : ∃ m, m = manyO t := ⟨_, rfl⟩
  rw [← hmt] at HLT
  obtain ⟨SH, hSH⟩ : ∃ S, S = shapeO t := ⟨_, rfl⟩
  rw [← hSH] at HSH HRS HBU HSHL
  obtain ⟨PR, hPR⟩ : ∃ L, L = pairsO t := ⟨_, rfl⟩
  rw [← hPR] at HRG HBU
  clear hsrt hmany hbal hshl hRT hmt hSH hPR
  unfold ShPost at HSH
  go_upto_region 5 with (go_at_call 7; (with_reducible refine (HSH.out _ M.out.x.1.1.2).mono ?_); rintro e w3 ⟨v9, rfl, ho, hb⟩; have HV9 := Lib.hid (owns_bools ho (by have := HSHL.out; unfold maxLen; omega)); replace M := Lib.hid (M.out.call hb); clear ho hb)
  obtain ⟨sa9, sc9, hv9⟩ := HV9.out.len
  obtain ⟨sn9, hsn9⟩ : ∃ n, n = SH.length := ⟨_, rfl⟩
  rw [← hsn9] at hv9
  subst hv9
  replace M := Lib.hid (M.out.add (Y := fun w' => BlIn w' (.slice sa9 sn9 sc9) SH) HV9.out (fun a b h hb => h.below hb))
  clear HV9 HSH hsn9
  go_upto_region 6 with (first
    | (go_at_call 9; (with_reducible refine (HRG.out _ M.out.x.1.1.1.2).mono ?_); rintro e w4 ⟨vr, rfl, hkv, hb⟩; have HVR := Lib.hid hkv; replace M := Lib.hid (M.out.call hb); clear hkv hb)
    | (go_at_call 8; (with_reducible refine (HBU.out _ vr _ (HE.out.below M.out.below HE.out.lt) M.out.x.2 HVR.out).mono ?_); clear HBU HRG; rintro e w5 ⟨u, rfl, hu, hb⟩; replace M := Lib.hid ((M.out.call hb).add (Y := fun w' => TreeO w' u t) hu (fun a b h hb => h.below hb)); clear hu hb))
  go_upto_region 8 with (first
    | (at_builtin; refine wpList_append_bools rfl (.tmp 41) (.tmp 42) rfl rfl w5.heap.size (.slice none 0 0) [] rfl (World.ownsRow_nil _ _ _ _) (.slice sa s.length sc) s rfl M.out.x.1.1.1.1.1.1.2 (by have := HSL.out; simp only [List.length_nil]; omega) (Nat.le_refl _) ?_; intro v43 w6 ho hgr; have HV43 := Lib.hid (show BlIn w6 v43 s from owns_bools (l := s) ho (by have := HSL.out; unfold maxLen; omega)); replace M := Lib.hid (M.out.call ((Below.refl w5.heap.size w5).grown hgr (Nat.le_refl _) (fun k hk => by cases hk))); clear ho hgr)
    | (go_at_call 8; (with_reducible refine (HBX2.out v43 _ (HE.out.below M.out.below HE.out.lt) HV43.out M.out.x.1.1.1.1.1.2).mono ?_); rintro e w7 ⟨x, rfl, hx, hb⟩; replace M := Lib.hid ((M.out.call hb).add (Y := fun w' => TreeO w' x AT) hx (fun a b h hb => h.below hb)); clear hx hb))
  go_upto_region 9 with (first
    | (go_at_call 10; (with_reducible refine (HBY2.out _ M.out.x.1.1.1.1.1.1.1.2 M.out.x.1.1.1.1.1.1.2).mono ?_); rintro e w8 ⟨cy, rfl, hy, hb⟩; have HY := Lib.hid hy; have cyZ := Lib.hid hy.size; have cyO := Lib.hid hy.one; replace M := Lib.hid (M.out.call hb); clear hy hb)
    | (refine wpList_store_row rfl 29 (.tmp 15) (.tmp 52) rfl w8.heap.size cy rfl rfl 29 _ (heap_alloc_new _ _) (by rw [cyZ.out]; kernel_rfl) (by rw [cyZ.out]; rfl) cyO.out ?_; rw [World.setRow_alloc_new]))
  replace M := Lib.hid (((M.out.new (.cells cy 29)).add (Y := fun w' => w'.heap[w8.heap.size]? = some (.cells cy 29 (0, 0))) (heap_alloc_new _ _) (kept_blk _ _)).add (Y := fun w' => RO w' cy AT) (HY.out.below (below_alloc _ _)) (fun a b h hb => h.below hb))
  obtain ⟨g15, hg15⟩ : ∃ g, g = w8.heap.size := ⟨_, rfl⟩
  rw [← hg15] at M ⊢
  clear hg15 HY
  generalize w8.alloc (.cells cy 29) = wa at *
  refine wp_region_T (fun w' => w'.rangeAt g8 0 cs.toList ∧ w'.rangeAt g15 0 cy.toList) [1, 2, 3, 10, 12, 17, 19, 24, 30, 31, 32] (by kernel_rfl) ?_
  replace M := Lib.hid (M.out.call (Below.refl _ _).drew)
  generalize wa.drew = wb at *
  have HRU := Lib.hid (fun w he h => HRT.out w he u h)
  replace HRT := Lib.hid (fun w he h => HRT.out w he (.pointer p) h)
  have HLU := Lib.hid (fun w h => HLT.out w u h)
  replace HLT := Lib.hid (fun w h => HLT.out w (.pointer p) h)
  replace HRX := Lib.hid (fun w he h => HRX.out w he x h)
  replace HRY := Lib.hid (fun w he h => HRY.out w he cy h)
  refine anyT_takeY (i := 0) (v := .slice sa9 sn9 sc9) rfl (by kernel_rfl) (by kernel_rfl) (by kernel_rfl) (fun _ _ _ h => h) (by kernel_rfl) (Or.inl ⟨by rfl, by intro w; go_simp⟩) ?_
  try simp only [List.getElem_toArray, List.getElem_cons_succ, List.getElem_cons_zero, Act.put, List.setIfInBounds_toArray, List.set_cons_zero, List.set_cons_succ]
  refine anyT_take [2, 3, 4, 5, 6, 7, 8, 9, 10, 11, 12, 13, 14, 15, 16, 17, 18, 19, 20, 21, 22, 23, 24, 25, 26, 27, 28, 29, 30, 31, 32, 33, 34, 35, 36, 37, 38] (i := 1) (v := .agg cs) rfl (by kernel_rfl) (by kernel_rfl) (by kernel_rfl) (fun _ _ _ h => h) (by kernel_rfl) (agg_mid (by rfl) 29 (.tmp 8) rfl g8 0 rfl _ _ (fun _ h => h.1) Tryd.underlying29 rfl (by rw [csZ.out]; kernel_rfl)) ⟨range_of M.out.x.1.1.1.1.1.1.2, range_of M.out.x.1.2⟩ ?_
  try simp only [List.getElem_toArray, List.getElem_cons_succ, List.getElem_cons_zero, Act.put, List.setIfInBounds_toArray, List.set_cons_zero, List.set_cons_succ]
  refine anyT_one (i := 2) (by kernel_rfl) rfl (fun K hK => ?_)
  rw [if_pos (by rfl)]
  try simp only [List.getElem_toArray, List.getElem_cons_succ, List.getElem_cons_zero]
  (go_simp; refine (HRS.out _ M.out.x.1.1.1.1.1.2).mono ?_; rintro e wn0 ⟨vz, rfl, hz, hb⟩; have HVZ := Lib.hid hz; replace M := Lib.hid (M.out.call hb); clear hz hb)
  refine hK _ _ (fun _ => ⟨range_of M.out.x.1.1.1.1.1.1.2, range_of M.out.x.1.2⟩) ?_
  clear hK K
  try simp only [List.getElem_toArray, List.getElem_cons_succ, List.getElem_cons_zero, Act.put, List.setIfInBounds_toArray, List.set_cons_zero, List.set_cons_succ]
  refine anyT_one (i := 3) (by kernel_rfl) rfl (fun K hK => ?_)
  rw [if_pos (by rfl)]
  try simp only [List.getElem_toArray, List.getElem_cons_succ, List.getElem_cons_zero]
  (go_simp; refine (bools_same (.slice sa9 sn9 sc9) vz _ _ M.out.x.1.1.1.1.2 HVZ.out).mono ?_; rintro e wn1 ⟨rfl, hb⟩; replace M := Lib.hid (M.out.call hb); clear hb)
  refine hK _ _ (fun _ => ⟨range_of M.out.x.1.1.1.1.1.1.2, range_of M.out.x.1.2⟩) ?_
  clear hK K
  try simp only [List.getElem_toArray, List.getElem_cons_succ, List.getElem_cons_zero, Act.put, List.setIfInBounds_toArray, List.set_cons_zero, List.set_cons_succ]
  refine anyT_takeY (i := 4) (v := .bool true) rfl (by kernel_rfl) (by kernel_rfl) (by kernel_rfl) (fun _ _ _ h => h) (by kernel_rfl) (Or.inl ⟨by rfl, by intro w; go_simp⟩) ?_
  try simp only [List.getElem_toArray, List.getElem_cons_succ, List.getElem_cons_zero, Act.put, List.setIfInBounds_toArray, List.set_cons_zero, List.set_cons_succ]
  refine anyT_takeY (i := 5) (v := .nilIface) rfl (by kernel_rfl) (by kernel_rfl) (by kernel_rfl) (fun _ _ _ h => h) (by kernel_rfl) (Or.inl ⟨by rfl, by intro w; go_simp⟩) ?_
  try simp only [List.getElem_toArray, List.getElem_cons_succ, List.getElem_cons_zero, Act.put, List.setIfInBounds_toArray, List.set_cons_zero, List.set_cons_succ]
  refine anyT_takeY (i := 6) (v := .bool true) rfl (by kernel_rfl) (by kernel_rfl) (by kernel_rfl) (fun _ _ _ h => h) (by kernel_rfl) (Or.inl ⟨by rfl, by intro w; go_simp⟩) ?_
  try simp only [List.getElem_toArray, List.getElem_cons_succ, List.getElem_cons_zero, Act.put, List.setIfInBounds_toArray, List.set_cons_zero, List.set_cons_succ]
  refine anyT_takeY (i := 7) (v := .bool true) rfl (by kernel_rfl) (by kernel_rfl) (by kernel_rfl) (fun _ _ _ h => h) (by kernel_rfl) (Or.inl ⟨by rfl, by intro w; go_simp⟩) ?_
  try simp only [List.getElem_toArray, List.getElem_cons_succ, List.getElem_cons_zero, Act.put, List.setIfInBounds_toArray, List.set_cons_zero, List.set_cons_succ]
  refine anyT_takeY (i := 8) (v := .bool true) rfl (by kernel_rfl) (by kernel_rfl) (by kernel_rfl) (fun _ _ _ h => h) (by kernel_rfl) (Or.inl ⟨by rfl, by intro w; go_simp⟩) ?_
  try simp only [List.getElem_toArray, List.getElem_cons_succ, List.getElem_cons_zero, Act.put, List.setIfInBounds_toArray, List.set_cons_zero, List.set_cons_succ]
  refine anyT_takeY (i := 9) (v := u) rfl (by kernel_rfl) (by kernel_rfl) (by kernel_rfl) (fun _ _ _ h => h) (by kernel_rfl) (Or.inl ⟨by rfl, by intro w; go_simp⟩) ?_
  try simp only [List.getElem_toArray, List.getElem_cons_succ, List.getElem_cons_zero, Act.put, List.setIfInBounds_toArray, List.set_cons_zero, List.set_cons_succ]
  refine anyT_takeY (i := 11) (v := .pointer p) rfl (by kernel_rfl) (by kernel_rfl) (by kernel_rfl) (fun _ _ _ h => h) (by kernel_rfl) (Or.inl ⟨by rfl, by intro w; go_simp⟩) ?_
  try simp only [List.getElem_toArray, List.getElem_cons_succ, List.getElem_cons_zero, Act.put, List.setIfInBounds_toArray, List.set_cons_zero, List.set_cons_succ]
  refine anyT_one (i := 10) (by kernel_rfl) rfl (fun K hK => ?_)
  rw [if_pos (by rfl)]
  try simp only [List.getElem_toArray, List.getElem_cons_succ, List.getElem_cons_zero]
  (go_simp; refine (HRU.out _ (HE.out.below M.out.below HE.out.lt) M.out.x.1.1.1.2).mono ?_; rintro e wn2 ⟨rfl, hb⟩; replace M := Lib.hid (M.out.call hb); clear hb)
  refine hK _ _ (fun _ => ⟨range_of M.out.x.1.1.1.1.1.1.2, range_of M.out.x.1.2⟩) ?_
  clear hK K
  try simp only [List.getElem_toArray, List.getElem_cons_succ, List.getElem_cons_zero, Act.put, List.setIfInBounds_toArray, List.set_cons_zero, List.set_cons_succ]
  refine anyT_one (i := 12) (by kernel_rfl) rfl (fun K hK => ?_)
  rw [if_pos (by rfl)]
  try simp only [List.getElem_toArray, List.getElem_cons_succ, List.getElem_cons_zero]
  (go_simp; refine (HRT.out _ (HE.out.below M.out.below HE.out.lt) M.out.x.1.1.1.1.1.1.1.2).mono ?_; rintro e wn3 ⟨rfl, hb⟩; replace M := Lib.hid (M.out.call hb); clear hb)
  refine hK _ _ (fun _ => ⟨range_of M.out.x.1.1.1.1.1.1.2, range_of M.out.x.1.2⟩) ?_
  clear hK K
  try simp only [List.getElem_toArray, List.getElem_cons_succ, List.getElem_cons_zero, Act.put, List.setIfInBounds_toArray, List.set_cons_zero, List.set_cons_succ]
  refine anyT_takeY (i := 13) (v := .bool true) rfl (by kernel_rfl) (by kernel_rfl) (by kernel_rfl) (fun _ _ _ h => h) (by kernel_rfl) (Or.inl ⟨by rfl, by intro w; go_simp⟩) ?_
  try simp only [List.getElem_toArray, List.getElem_cons_succ, List.getElem_cons_zero, Act.put, List.setIfInBounds_toArray, List.set_cons_zero, List.set_cons_succ]
  refine anyT_takeY (i := 14) (v := .bool true) rfl (by kernel_rfl) (by kernel_rfl) (by kernel_rfl) (fun _ _ _ h => h) (by kernel_rfl) (Or.inl ⟨by rfl, by intro w; go_simp⟩) ?_
  try simp only [List.getElem_toArray, List.getElem_cons_succ, List.getElem_cons_zero, Act.put, List.setIfInBounds_toArray, List.set_cons_zero, List.set_cons_succ]
  refine anyT_takeY (i := 15) (v := .bool true) rfl (by kernel_rfl) (by kernel_rfl) (by kernel_rfl) (fun _ _ _ h => h) (by kernel_rfl) (Or.inl ⟨by rfl, by intro w; go_simp⟩) ?_
  try simp only [List.getElem_toArray, List.getElem_cons_succ, List.getElem_cons_zero, Act.put, List.setIfInBounds_toArray, List.set_cons_zero, List.set_cons_succ]
  refine anyT_takeY (i := 16) (v := u) rfl (by kernel_rfl) (by kernel_rfl) (by kernel_rfl) (fun _ _ _ h => h) (by kernel_rfl) (Or.inl ⟨by rfl, by intro w; go_simp⟩) ?_
  try simp only [List.getElem_toArray, List.getElem_cons_succ, List.getElem_cons_zero, Act.put, List.setIfInBounds_toArray, List.set_cons_zero, List.set_cons_succ]
  refine anyT_takeY (i := 18) (v := .pointer p) rfl (by kernel_rfl) (by kernel_rfl) (by kernel_rfl) (fun _ _ _ h => h) (by kernel_rfl) (Or.inl ⟨by rfl, by intro w; go_simp⟩) ?_
  try simp only [List.getElem_toArray, List.getElem_cons_succ, List.getElem_cons_zero, Act.put, List.setIfInBounds_toArray, List.set_cons_zero, List.set_cons_succ]
  refine anyT_one (i := 17) (by kernel_rfl) rfl (fun K hK => ?_)
  rw [if_pos (by rfl)]
  try simp only [List.getElem_toArray, List.getElem_cons_succ, List.getElem_cons_zero]
  (go_simp; refine (HLU.out _ M.out.x.1.1.1.2).mono ?_; rintro e wn4 ⟨rfl, rfl⟩)
  refine hK _ _ (fun _ => ⟨range_of M.out.x.1.1.1.1.1.1.2, range_of M.out.x.1.2⟩) ?_
  clear hK K
  try simp only [List.getElem_toArray, List.getElem_cons_succ, List.getElem_cons_zero, Act.put, List.setIfInBounds_toArray, List.set_cons_zero, List.set_cons_succ]
  refine anyT_one (i := 19) (by kernel_rfl) rfl (fun K hK => ?_)
  rw [if_pos (by rfl)]
  try simp only [List.getElem_toArray, List.getElem_cons_succ, List.getElem_cons_zero]
  (go_simp; refine (HLT.out _ M.out.x.1.1.1.1.1.1.1.2).mono ?_; rintro e wn5 ⟨rfl, rfl⟩)
  refine hK _ _ (fun _ => ⟨range_of M.out.x.1.1.1.1.1.1.2, range_of M.out.x.1.2⟩) ?_
  clear hK K
  try simp only [List.getElem_toArray, List.getElem_cons_succ, List.getElem_cons_zero, Act.put, List.setIfInBounds_toArray, List.set_cons_zero, List.set_cons_succ]
  refine anyT_takeY (i := 20) (v := .bool true) rfl (by kernel_rfl) (by kernel_rfl) (by kernel_rfl) (fun _ _ _ h => h) (by kernel_rfl) (Or.inl ⟨by rfl, by intro w; go_simp⟩) ?_
  try simp only [List.getElem_toArray, List.getElem_cons_succ, List.getElem_cons_zero, Act.put, List.setIfInBounds_toArray, List.set_cons_zero, List.set_cons_succ]
  refine anyT_takeY (i := 21) (v := .bool true) rfl (by kernel_rfl) (by kernel_rfl) (by kernel_rfl) (fun _ _ _ h => h) (by kernel_rfl) (Or.inl ⟨by rfl, by intro w; go_simp⟩) ?_
  try simp only [List.getElem_toArray, List.getElem_cons_succ, List.getElem_cons_zero, Act.put, List.setIfInBounds_toArray, List.set_cons_zero, List.set_cons_succ]
  refine anyT_takeY (i := 22) (v := .bool true) rfl (by kernel_rfl) (by kernel_rfl) (by kernel_rfl) (fun _ _ _ h => h) (by kernel_rfl) (Or.inl ⟨by rfl, by intro w; go_simp⟩) ?_
  try simp only [List.getElem_toArray, List.getElem_cons_succ, List.getElem_cons_zero, Act.put, List.setIfInBounds_toArray, List.set_cons_zero, List.set_cons_succ]
  refine anyT_takeY (i := 23) (v := errV ef) rfl (by kernel_rfl) (by kernel_rfl) (by kernel_rfl) (fun _ _ _ h => h) (by kernel_rfl) (Or.inl ⟨by rfl, by intro w; go_simp⟩) ?_
  try simp only [List.getElem_toArray, List.getElem_cons_succ, List.getElem_cons_zero, Act.put, List.setIfInBounds_toArray, List.set_cons_zero, List.set_cons_succ]
  refine anyT_takeY (i := 25) (v := .int .i64 (numE ef)) rfl (by kernel_rfl) (by kernel_rfl) (by kernel_rfl) (fun _ _ _ h => h) (by kernel_rfl) (Or.inl ⟨by rfl, by intro w; go_simp⟩) ?_
  try simp only [List.getElem_toArray, List.getElem_cons_succ, List.getElem_cons_zero, Act.put, List.setIfInBounds_toArray, List.set_cons_zero, List.set_cons_succ]
  refine anyT_one (i := 24) (by kernel_rfl) rfl (fun K hK => ?_)
  rw [if_pos (by rfl)]
  try simp only [List.getElem_toArray, List.getElem_cons_succ, List.getElem_cons_zero]
  (go_simp; refine (num_any ef _ (HET.out.below M.out.below)).mono ?_; rintro e wn6 ⟨rfl, hb⟩; replace M := Lib.hid (M.out.call hb); clear hb)
  refine hK _ _ (fun _ => ⟨range_of M.out.x.1.1.1.1.1.1.2, range_of M.out.x.1.2⟩) ?_
  clear hK K
  try simp only [List.getElem_toArray, List.getElem_cons_succ, List.getElem_cons_zero, Act.put, List.setIfInBounds_toArray, List.set_cons_zero, List.set_cons_succ]
  refine anyT_takeY (i := 26) (v := .bool true) rfl (by kernel_rfl) (by kernel_rfl) (by kernel_rfl) (fun _ _ _ h => h) (by kernel_rfl) (Or.inl ⟨by rfl, by intro w; go_simp⟩) ?_
  try simp only [List.getElem_toArray, List.getElem_cons_succ, List.getElem_cons_zero, Act.put, List.setIfInBounds_toArray, List.set_cons_zero, List.set_cons_succ]
  refine anyT_takeY (i := 27) (v := .bool true) rfl (by kernel_rfl) (by kernel_rfl) (by kernel_rfl) (fun _ _ _ h => h) (by kernel_rfl) (Or.inl ⟨by rfl, by intro w; go_simp⟩) ?_
  try simp only [List.getElem_toArray, List.getElem_cons_succ, List.getElem_cons_zero, Act.put, List.setIfInBounds_toArray, List.set_cons_zero, List.set_cons_succ]
  refine anyT_takeY (i := 28) (v := .bool true) rfl (by kernel_rfl) (by kernel_rfl) (by kernel_rfl) (fun _ _ _ h => h) (by kernel_rfl) (Or.inl ⟨by rfl, by intro w; go_simp⟩) ?_
  try simp only [List.getElem_toArray, List.getElem_cons_succ, List.getElem_cons_zero, Act.put, List.setIfInBounds_toArray, List.set_cons_zero, List.set_cons_succ]
  refine anyT_takeY (i := 29) (v := x) rfl (by kernel_rfl) (by kernel_rfl) (by kernel_rfl) (fun _ _ _ h => h) (by kernel_rfl) (Or.inl ⟨by rfl, by intro w; go_simp⟩) ?_
  try simp only [List.getElem_toArray, List.getElem_cons_succ, List.getElem_cons_zero, Act.put, List.setIfInBounds_toArray, List.set_cons_zero, List.set_cons_succ]
  refine anyT_take [32, 33, 34, 35, 36, 37, 38] (i := 31) (v := .agg cy) rfl (by kernel_rfl) (by kernel_rfl) (by kernel_rfl) (fun _ _ _ h => h) (by kernel_rfl) (agg_mid (by rfl) 29 (.tmp 15) rfl g15 0 rfl _ _ (fun _ h => h.2) Tryd.underlying29 rfl (by rw [cyZ.out]; kernel_rfl)) ⟨range_of M.out.x.1.1.1.1.1.1.2, range_of M.out.x.1.2⟩ ?_
  try simp only [List.getElem_toArray, List.getElem_cons_succ, List.getElem_cons_zero, Act.put, List.setIfInBounds_toArray, List.set_cons_zero, List.set_cons_succ]
  refine anyT_one (i := 30) (by kernel_rfl) rfl (fun K hK => ?_)
  rw [if_pos (by rfl)]
  try simp only [List.getElem_toArray, List.getElem_cons_succ, List.getElem_cons_zero]
  (go_simp; refine (HRX.out _ (HE.out.below M.out.below HE.out.lt) M.out.x.1.1.2).mono ?_; rintro e wn7 ⟨rfl, hb⟩; replace M := Lib.hid (M.out.call hb); clear hb)
  refine hK _ _ (fun _ => ⟨range_of M.out.x.1.1.1.1.1.1.2, range_of M.out.x.1.2⟩) ?_
  clear hK K
  try simp only [List.getElem_toArray, List.getElem_cons_succ, List.getElem_cons_zero, Act.put, List.setIfInBounds_toArray, List.set_cons_zero, List.set_cons_succ]
  refine anyT_one (i := 32) (by kernel_rfl) rfl (fun K hK => ?_)
  rw [if_pos (by rfl)]
  try simp only [List.getElem_toArray, List.getElem_cons_succ, List.getElem_cons_zero]
  (go_simp; refine (HRY.out _ (HE.out.below M.out.below HE.out.lt) M.out.x.2).mono ?_; rintro e wn8 ⟨rfl, hb⟩; replace M := Lib.hid (M.out.call hb); clear hb)
  refine hK _ _ (fun _ => ⟨range_of M.out.x.1.1.1.1.1.1.2, range_of M.out.x.1.2⟩) ?_
  clear hK K
  try simp only [List.getElem_toArray, List.getElem_cons_succ, List.getElem_cons_zero, Act.put, List.setIfInBounds_toArray, List.set_cons_zero, List.set_cons_succ]
  refine anyT_takeY (i := 33) (v := .bool true) rfl (by kernel_rfl) (by kernel_rfl) (by kernel_rfl) (fun _ _ _ h => h) (by kernel_rfl) (Or.inl ⟨by rfl, by intro w; go_simp⟩) ?_
  try simp only [List.getElem_toArray, List.getElem_cons_succ, List.getElem_cons_zero, Act.put, List.setIfInBounds_toArray, List.set_cons_zero, List.set_cons_succ]
  refine anyT_takeY (i := 34) (v := .bool true) rfl (by kernel_rfl) (by kernel_rfl) (by kernel_rfl) (fun _ _ _ h => h) (by kernel_rfl) (Or.inl ⟨by rfl, by intro w; go_simp⟩) ?_
  try simp only [List.getElem_toArray, List.getElem_cons_succ, List.getElem_cons_zero, Act.put, List.setIfInBounds_toArray, List.set_cons_zero, List.set_cons_succ]
  refine anyT_takeY (i := 35) (v := .bool true) rfl (by kernel_rfl) (by kernel_rfl) (by kernel_rfl) (fun _ _ _ h => h) (by kernel_rfl) (Or.inl ⟨by rfl, by intro w; go_simp⟩) ?_
  try simp only [List.getElem_toArray, List.getElem_cons_succ, List.getElem_cons_zero, Act.put, List.setIfInBounds_toArray, List.set_cons_zero, List.set_cons_succ]
  refine anyT_one (i := 36) (by kernel_rfl) rfl (fun K hK => ?_)
  rw [if_pos (by rfl)]
  try simp only [List.getElem_toArray, List.getElem_cons_succ, List.getElem_cons_zero]
  (go_simp; refine (avsure_any _ (HE.out.below M.out.below HE.out.lt)).mono ?_; rintro e wn9 ⟨rfl, hb⟩; replace M := Lib.hid (M.out.call hb); clear hb)
  refine hK _ _ (not_mem rfl) ?_
  clear hK K
  try simp only [List.getElem_toArray, List.getElem_cons_succ, List.getElem_cons_zero, Act.put, List.setIfInBounds_toArray, List.set_cons_zero, List.set_cons_succ]
  refine anyT_takeY (i := 37) (v := .bool true) rfl (by kernel_rfl) (by kernel_rfl) (by kernel_rfl) (fun _ _ _ h => h) (by kernel_rfl) (Or.inl ⟨by rfl, by intro w; go_simp⟩) ?_
  try simp only [List.getElem_toArray, List.getElem_cons_succ, List.getElem_cons_zero, Act.put, List.setIfInBounds_toArray, List.set_cons_zero, List.set_cons_succ]
  refine anyT_takeY (i := 38) (v := .bool true) rfl (by kernel_rfl) (by kernel_rfl) (by kernel_rfl) (fun _ _ _ h => h) (by kernel_rfl) (Or.inl ⟨by rfl, by intro w; go_simp⟩) ?_
  try simp only [List.getElem_toArray, List.getElem_cons_succ, List.getElem_cons_zero, Act.put, List.setIfInBounds_toArray, List.set_cons_zero, List.set_cons_succ]
  refine anyT_done (by kernel_rfl) ?_ _
  go_wp2_with (fail)
  go_ret
  exact ⟨rfl, M.out.below⟩
theorem lshapes_any (va vs vp : Value) (ts : List AvA) (s : List Bool) (P : List KV) (N : Nat) (w : World) (he : Env w) (hg : ErrType w) (hx : AvActs w va ts) (hk : ∀ t ∈ ts, t.kOk) (hz : ∀ t ∈ ts, t.key.size + t.val.size ≤ N) (hs : BlIn w vs s) (hp : KVIn w vp P) (hpz : ∀ p ∈ P, p.1.size + p.2.size ≤ 1048576) (hN : N ≤ 1048576) :
    Calls Tryd.prog 3 #[va, vs, vp] w fun e w' => e = .returned (.bool true) ∧ Below w.heap.size w w' := by
  by_cases h : 300 < s.length ∨ 200 < P.length
  · exact lshapes_big va vs vp s P w he hs hp h
  · exact lshapes_small va vs vp ts s P N w he hg hx hk hz hs hp hpz hN (by omega) (by omega)
end Go.Proofs.YtadolfacjolbkaaDoor

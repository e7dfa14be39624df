/- AvlPaths: the walk. -/
import Derived.Test.YtlhfdkkeanchcaaDoorAvGr
import Derived.Test.YtlhfdkkeanchcaaDoorAvPath
import Derived.Test.YtlhfdkkeanchcaaDoorEq32
namespace Go.Proofs.YtlhfdkkeanchcaaDoor
open Go.RowKit
set_option maxRecDepth 100000
set_option linter.unusedSimpArgs false
set_option linter.unusedVariables false
/-- a sum brought up by one Step: the sum, the keys beneath it, the place -/
def upS (x : (Nat → Int) × Nat × Nat) (s : AvS) : (Nat → Int) × Nat × Nat :=
  if s.sec then (avNodeF (uN s.many) s.oth x.2.1 x.1, x.2.1 + s.many.toNat, x.2.2 + s.many.toNat) else (avNodeF x.2.1 x.1 (uN s.many) s.oth, x.2.1 + s.many.toNat, x.2.2)
theorem path_fold : ∀ (t : AvT) (i : Nat), i < t.many → t.many ≤ 4611686018427387904 → (t.path i).foldl upS (avLeafF (t.at? i).1 (t.at? i).2, 1, 0) = (t.root, t.many, i)
  | .leaf k v, i, h, _ => by
    simp only [AvT.many] at h
    obtain rfl : i = 0 := by omega
    rfl
  | .node a b, i, h, hm => by
    simp only [AvT.many] at h hm
    unfold AvT.path AvT.at?
    split
    · rename_i hi
      rw [List.foldl_append, path_fold a i hi (by omega)]
      simp only [List.foldl_cons, List.foldl_nil, upS, AvT.root, AvT.many]
      rw [uN_nat _ (by omega)]
      simp
    · rename_i hi
      rw [List.foldl_append, path_fold b (i - a.many) (by omega) (by omega)]
      simp only [List.foldl_cons, List.foldl_nil, upS, AvT.root, AvT.many]
      rw [uN_nat _ (by omega)]
      simp only [if_true, Int.toNat_natCast]
      rw [show b.many + a.many = a.many + b.many by omega, show i - a.many + a.many = i by omega]
theorem path_len : ∀ (t : AvT) (i : Nat), (t.path i).length + 1 ≤ t.many
  | .leaf k v, i => by simp [AvT.path, AvT.many]
  | .node a b, i => by
    have ha := path_len a i
    have hb := path_len b (i - a.many)
    have pa := a.many_pos
    have pb := b.many_pos
    unfold AvT.path
    simp only [AvT.many]
    split <;> rw [List.length_append, List.length_singleton] <;> omega
theorem path_many : ∀ (t : AvT) (i : Nat), ∀ s ∈ t.path i, ∃ n : Nat, s.many = (n : Int) ∧ n ≤ t.many
  | .leaf k v, i, s, h => by simp [AvT.path] at h
  | .node a b, i, s, h => by
    unfold AvT.path at h
    simp only [AvT.many]
    split at h
    · rcases List.mem_append.1 h with h | h
      · obtain ⟨n, h1, h2⟩ := path_many a i s h; exact ⟨n, h1, by omega⟩
      · rw [List.mem_singleton.1 h]; exact ⟨b.many, rfl, by omega⟩
    · rcases List.mem_append.1 h with h | h
      · obtain ⟨n, h1, h2⟩ := path_many b _ s h; exact ⟨n, h1, by omega⟩
      · rw [List.mem_singleton.1 h]; exact ⟨a.many, rfl, by omega⟩
theorem upS_bd (B : Nat) : ∀ (l : List AvS), (∀ s ∈ l, s.many.toNat ≤ B) → ∀ x, (l.foldl upS x).2.1 ≤ x.2.1 + B * l.length ∧ (l.foldl upS x).2.2 ≤ x.2.2 + B * l.length
  | [], _, x => by simp
  | s :: l, h, x => by
    have h1 := h s (List.mem_cons_self ..)
    obtain ⟨i1, i2⟩ := upS_bd B l (fun s hs => h s (List.mem_cons_of_mem _ hs)) (upS x s)
    rw [List.foldl_cons]
    have e : B * (s :: l).length = B * l.length + B := by rw [List.length_cons, Nat.mul_add, Nat.mul_one]
    have u1 : (upS x s).2.1 = x.2.1 + s.many.toNat := by unfold upS; split <;> rfl
    have u2 : (upS x s).2.2 ≤ x.2.2 + s.many.toNat := by unfold upS; split <;> simp
    rw [e]; omega
theorem st_range {w : World} {b o : Nat} {s : AvS} (h : w.rangeAt b o s.cells) : w.cell? ⟨b, o, none⟩ = some (.bool s.sec) ∧ w.cell? ⟨b, o + 1, none⟩ = some (.int .i64 s.many) ∧ w.rangeAt b (o + 2) (rowOf .u8 32 s.oth).toList := by
  have hs : (rowOf .u8 32 s.oth).size = 32 := rowOf_size _ _ _
  refine ⟨h 0 _ ?_, h 1 _ ?_, fun j v hv => ?_⟩
  · unfold AvS.cells stC; simp
  · unfold AvS.cells stC; simp
  · rw [Nat.add_assoc]
    refine h (2 + j) v ?_
    unfold AvS.cells stC
    rw [Array.toList_append, List.getElem?_append_right (by simp)]
    simpa using hv
theorem snoc_fold (l : List AvS) (x : (Nat → Int) × Nat × Nat) (k : Nat) (s : AvS) (h : l[k]? = some s) : (l.take (k + 1)).foldl upS x = upS ((l.take k).foldl upS x) s := by
  have hk : k < l.length := (List.getElem?_eq_some_iff.1 h).1
  rw [List.take_succ_eq_append_getElem hk, List.foldl_append]
  rw [List.getElem?_eq_getElem hk] at h
  injection h with h
  rw [h]; rfl
set_option maxRecDepth 1000000 in
set_option maxHeartbeats 8000000 in
theorem lpaths_any (va : Value) (ts : List AvA) (at_ : Int) (N : Nat) (w : World) (he : Env w) (hx : AvActs w va ts) (hk : ∀ t ∈ ts, t.kOk) (hs : ∀ t ∈ ts, t.key.size + t.val.size ≤ N) (hN : N ≤ 1048576) :
    Calls Tryd.prog 5 #[va, .int .i64 at_] w fun e w' => e = .returned (.bool true) ∧ Below w.heap.size w w' := by
  have HGR := Lib.hid (grown_any va ts N w he hx hk hs hN)
  have HE := Lib.hid he
  have HNB := Lib.hid hN
  clear he hx hk hs hN
  unfold GrPost at HGR
  go_enter Tryd.func5, Tryd.ntmps5
  go_upto_region 2 with (first
    | (go_at_call 8; (with_reducible refine HGR.out.mono ?_); rintro e w1 ⟨v, cs, t, rfl, ht, hr, hg, hb⟩; have HT := Lib.hid ht; have HG := Lib.hid hg; have HBT := Lib.hid hb; have csZ := Lib.hid hr.size; have csO := Lib.hid hr.one; clear ht hr hg hb)
    | (refine wpList_store_row rfl 28 (.tmp 6) (.tmp 20) rfl w1.heap.size cs rfl rfl 28 _ (heap_alloc_new _ _) (by rw [csZ.out]; kernel_rfl) (by rw [csZ.out]; rfl) csO.out ?_; rw [World.setRow_alloc_new]))
  replace HT := Lib.hid (HT.out.below (below_alloc w1 (.cells cs 28)))
  replace HBT := Lib.hid (HBT.out.trans ((below_alloc w1 (.cells cs 28)).mono HBT.out.size))
  generalize w1.alloc (.cells cs 28) = w2 at *
  cases t with
  | none =>
    obtain rfl : v = .pointer none := HT.out
    go_wp2_with (first
      | (go_at_call 18; (with_reducible refine (len_nil _).mono ?_); rintro e w' ⟨rfl, rfl⟩)
      | (go_at_call 30; (with_reducible refine (avsure_any _ (HE.out.below HBT.out HE.out.lt)).mono ?_); rintro e w3 ⟨rfl, hb⟩; replace HBT := Lib.hid (HBT.out.trans (hb.mono HBT.out.size)); clear hb))
    go_ret
    exact ⟨rfl, HBT.out⟩
  | some t =>
    obtain ⟨gt, rfl, htt⟩ := HT.out
    have HTT := Lib.hid htt
    have hmany : t.many ≤ 60 := HG.out.many
    have hpos := t.many_pos
    obtain ⟨i, hi, hie⟩ := avsmall_mod at_ t.many (by omega) (by omega)
    have HLE := Lib.hid (fun w h => len_some (g := gt) (t := t) w h)
    have HAT := Lib.hid (at_yes gt t i w2 htt hi (by omega))
    have HPA := Lib.hid (fun w h => path_yes gt t i w h hi (by omega))
    have HFI := Lib.hid (fun w h => find_some (t.at? i).1 t gt w h (by omega))
    rw [find_at (show Srt t.pairs from HG.out.srt) hi] at HFI
    have HRT := Lib.hid (fun w h => root_some gt t w h)
    have HFO := Lib.hid (path_fold t i hi (by omega))
    have HPL := Lib.hid (show (t.path i).length ≤ 60 by have := path_len t i; omega)
    have HPM := Lib.hid (show ∀ s ∈ t.path i, ∃ n : Nat, s.many = (n : Int) ∧ n ≤ 60 from fun s hs => by obtain ⟨n, h1, h2⟩ := path_many t i s hs; exact ⟨n, h1, by omega⟩)
    have HPS := Lib.hid (show (t.at? i).1.size + (t.at? i).2.size ≤ 140737488351232 from by
      have := HG.out.size (t.at? i) (List.mem_of_getElem? (at_eq t i hi)); have := HNB.out; omega)
    obtain ⟨⟨key, val⟩, hkv⟩ : ∃ p, p = t.at? i := ⟨_, rfl⟩
    obtain ⟨S, hS⟩ : ∃ S, S = t.path i := ⟨_, rfl⟩
    obtain ⟨R, hR⟩ : ∃ R, R = t.root := ⟨_, rfl⟩
    obtain ⟨m, hmm⟩ : ∃ m, m = t.many := ⟨_, rfl⟩
    rw [← hkv] at HAT HFI HFO HPS
    rw [← hS] at HPA HFO HPL HPM
    rw [← hR] at HRT HFO
    rw [← hmm] at HLE HFO hmany hpos hi hie
    simp only at HFI HFO HPS
    have hm0 : ((m : Int) == 0) = false := by rw [beq_eq_false_iff_ne]; omega
    have hm0' : ¬ (m : Int) = 0 := by omega
    have hum : IntKind.u64.wrap (m : Int) = (m : Int) := IntWalk.u64_in _ (by omega)
    clear htt hkv hS hR hmm HG HT hpos
    unfold AtPost PathPost at *
    go_upto_region 5 with (first
      | (go_at_call 18; (with_reducible refine (HLE.out _ HTT.out).mono ?_); rintro e w' ⟨rfl, rfl⟩))
    rw [hie]
    clear hie hum hm0 hm0'
    go_upto_region 6 with (first
      | (go_at_call 11; (with_reducible refine HAT.out.mono ?_); rintro e w3 ⟨rfl, hb⟩; rw [show errV (none : Option Nat) = Value.nilIface from rfl]; replace HTT := Lib.hid (HTT.out.below hb); replace HBT := Lib.hid (HBT.out.trans (hb.mono HBT.out.size)); clear hb)
      | (refine wpList_store_row rfl 35 (.tmp 8) (.tmp 36) rfl w3.heap.size (kvC (key, val)) rfl rfl 35 _ (heap_alloc_new _ _) (by kernel_rfl) rfl (kvC_one _) ?_; rw [World.setRow_alloc_new]))
    have H8 := Lib.hid (heap_alloc_new w3 (.cells (kvC (key, val)) 35))
    have hb8 := below_alloc w3 (.cells (kvC (key, val)) 35)
    replace HTT := Lib.hid (HTT.out.below hb8)
    replace HBT := Lib.hid (HBT.out.trans (hb8.mono HBT.out.size))
    clear hb8
    obtain ⟨g8, hg8⟩ : ∃ g, g = w3.heap.size := ⟨_, rfl⟩
    rw [← hg8] at H8 ⊢
    clear hg8
    generalize w3.alloc (.cells (kvC (key, val)) 35) = w4 at *
    go_upto_region 7 with (first
      | (go_at_call 13; (with_reducible refine (HPA.out _ HTT.out).mono ?_); rintro e w5 ⟨sv, rfl, hst, hb⟩; rw [show errV (none : Option Nat) = Value.nilIface from rfl]; have HX := Lib.hid hst; replace HTT := Lib.hid (HTT.out.below hb); replace HBT := Lib.hid (HBT.out.trans (hb.mono HBT.out.size)); replace H8 := Lib.hid ((hb.block _ (blk_lt H8.out)).trans H8.out); clear hst hb))
    obtain ⟨sa, sc, rfl⟩ := HX.out.len
    have HCK := Lib.hid (fun (w' : World) (hb : Below w5.heap.size w5 w') => (show w'.cell? ⟨g8, 0, none⟩ = some (.string key) by rw [cell_of_row w' _ 0 _ _ _ ((hb.block _ (blk_lt H8.out)).trans H8.out)]; rfl))
    have c80 := HCK.out w5 (Below.refl _ _)
    have c81 : w5.cell? ⟨g8, 1, none⟩ = some (.string val) := by rw [cell_of_row w5 _ 1 _ _ _ H8.out]; rfl
    have HBS := Lib.hid (Below.refl w5.heap.size w5)
    go_upto_region 10 with (first
      | (go_at_call 26; (with_reducible refine (avLeaf_any key val _ (HE.out.below HBT.out HE.out.lt) HPS.out).mono ?_); rintro e w6 ⟨rfl, hb⟩; replace HBS := Lib.hid (HBS.out.trans hb); clear hb c80 c81)
      | (refine wpList_store_row rfl 50 (.tmp 12) (.tmp 54) rfl w6.heap.size (rowOf .u8 32 (avLeafF key val)) rfl rfl 50 _ (heap_alloc_new _ _) (by rw [rowOf_size]; kernel_rfl) (by rw [rowOf_size]; rfl) (rowOf_one _ _ _) ?_; rw [World.setRow_alloc_new]))
    have HH := Lib.hid (RowAt.new w6 .u8 32 50 (avLeafF key val))
    have HG12 := Lib.hid HBS.out.size
    replace HBS := Lib.hid (HBS.out.trans ((below_alloc w6 (.cells (rowOf .u8 32 (avLeafF key val)) 50)).mono HBS.out.size))
    obtain ⟨g12, hg12⟩ : ∃ g, g = w6.heap.size := ⟨_, rfl⟩
    rw [← hg12] at HH HG12 ⊢
    clear hg12
    generalize w6.alloc (.cells (rowOf .u8 32 (avLeafF key val)) 50) = w7 at *
    go_wp2_with (fail)
    go_loopw [13, 14, 15] (fun x y z wr => ∃ k mk pk : Nat, ∃ hk : Nat → Int, k ≤ S.length ∧ x = .int .i64 (mk : Int) ∧ y = .int .i64 (pk : Int) ∧ z = .int .i64 (k : Int) ∧ Hid ((S.take k).foldl upS (avLeafF key val, 1, 0) = (hk, mk, pk)) ∧ Hid (RowAt wr g12 .u8 32 50 hk) ∧ Hid (Below w5.heap.size w5 wr)) (fun _ _ z _ => S.length - (intOf z).toNat)
    case atStart => exact ⟨0, 1, 0, _, by omega, rfl, rfl, rfl, Lib.hid rfl, HH, HBS⟩
    case round =>
      clear HH HBS
      obtain ⟨k, mk, pk, hk, hkl, rfl, rfl, rfl, HF, HH, HBS⟩ := hrel
      have hkb : k ≤ 60 := by have := HPL.out; omega
      by_cases hlt : k < S.length
      · obtain ⟨s, hs⟩ : ∃ s, S[k]? = some s := ⟨S[k], List.getElem?_eq_getElem hlt⟩
        obtain ⟨ab, ao, rfl, hab, hra⟩ := HX.out.at k s hs
        obtain ⟨n, hn, hn60⟩ := HPM.out s (List.mem_of_getElem? hs)
        have HSN := Lib.hid ((snoc_fold S (avLeafF key val, 1, 0) k s hs).trans (by rw [HF.out]))
        have hbd := upS_bd 60 (S.take k) (fun s hs => by obtain ⟨n, h1, h2⟩ := HPM.out s (List.mem_of_mem_take hs); rw [h1]; simpa using h2) (avLeafF key val, 1, 0)
        rw [HF.out, List.length_take] at hbd
        have hmk : mk ≤ 100000 := by have := hbd.1; simp only at this; omega
        have hpk : pk ≤ 100000 := by have := hbd.2; simp only at this; omega
        obtain ⟨q0, q1, q2⟩ := st_range hra
        obtain ⟨sec, many, O⟩ := s
        simp only at hn q0 q1 q2
        subst hn
        have C0 := Lib.hid (fun (w' : World) (hb : Below w5.heap.size w5 w') => (hb.cell (p := ⟨ab, ao + k * 34, none⟩) hab).trans q0)
        have C1 := Lib.hid (fun (w' : World) (hb : Below w5.heap.size w5 w') => (hb.cell (p := ⟨ab, ao + k * 34 + 1, none⟩) hab).trans q1)
        have C2 := Lib.hid (fun (w' : World) (hb : Below w5.heap.size w5 w') => range_below q2 hb hab)
        have HUN := Lib.hid (show uN (mk : Int) = mk from uN_nat _ (by omega))
        have hltI : (k : Int) < (S.length : Int) := by omega
        clear hs hra hbd q0 q1 q2 hab
        have c0 := C0.out wr HBS.out
        cases sec with
        | true =>
          go_upto_region 14 with (fail)
          clear c0
          refine wp_region_T (fun w' => w'.cell? ⟨ab, ao + k * 34 + 1, none⟩ = some (.int .i64 (n : Int)) ∧ w'.rangeAt ab (ao + k * 34 + 2) (rowOf .u8 32 O).toList ∧ RowAt w' g12 .u8 32 50 hk) [2, 3, 4, 7, 8, 9, 11] (by kernel_rfl) ?_
          replace HH := Lib.hid (HH.out.drew)
          replace HBS := Lib.hid (HBS.out.drew)
          generalize wr.drew = w6' at *
          refine anyT_takeY (i := 0) (v := .slice (some ⟨ab, ao, none⟩) S.length sc) rfl (by kernel_rfl) (by kernel_rfl) (by kernel_rfl) (fun _ _ _ h => h) (by kernel_rfl) (Or.inl ⟨by rfl, by intro w; go_simp⟩) ?_
          try simp only [List.getElem_toArray, List.getElem_cons_succ, List.getElem_cons_zero, Act.put, List.setIfInBounds_toArray, List.set_cons_zero, List.set_cons_succ]
          refine anyT_takeY (i := 1) (v := .int .i64 (k : Int)) rfl (by kernel_rfl) (by kernel_rfl) (by kernel_rfl) (fun _ _ _ h => h) (by kernel_rfl) (Or.inl ⟨by rfl, by intro w; go_simp⟩) ?_
          try simp only [List.getElem_toArray, List.getElem_cons_succ, List.getElem_cons_zero, Act.put, List.setIfInBounds_toArray, List.set_cons_zero, List.set_cons_succ]
          refine anyT_takeY (i := 5) (v := .slice (some ⟨ab, ao, none⟩) S.length sc) rfl (by kernel_rfl) (by kernel_rfl) (by kernel_rfl) (fun _ _ _ h => h) (by kernel_rfl) (Or.inl ⟨by rfl, by intro w; go_simp⟩) ?_
          try simp only [List.getElem_toArray, List.getElem_cons_succ, List.getElem_cons_zero, Act.put, List.setIfInBounds_toArray, List.set_cons_zero, List.set_cons_succ]
          refine anyT_takeY (i := 6) (v := .int .i64 (k : Int)) rfl (by kernel_rfl) (by kernel_rfl) (by kernel_rfl) (fun _ _ _ h => h) (by kernel_rfl) (Or.inl ⟨by rfl, by intro w; go_simp⟩) ?_
          try simp only [List.getElem_toArray, List.getElem_cons_succ, List.getElem_cons_zero, Act.put, List.setIfInBounds_toArray, List.set_cons_zero, List.set_cons_succ]
          refine anyT_takeY (i := 10) (v := .int .i64 (mk : Int)) rfl (by kernel_rfl) (by kernel_rfl) (by kernel_rfl) (fun _ _ _ h => h) (by kernel_rfl) (Or.inl ⟨by rfl, by intro w; go_simp⟩) ?_
          try simp only [List.getElem_toArray, List.getElem_cons_succ, List.getElem_cons_zero, Act.put, List.setIfInBounds_toArray, List.set_cons_zero, List.set_cons_succ]
          refine anyT_take [3, 4, 12, 13] (i := 2) (v := .pointer (some ⟨ab, ao + k * 34, none⟩)) rfl (by kernel_rfl) (by kernel_rfl) (by kernel_rfl) (fun _ _ _ h => h) (by kernel_rfl) (Or.inl ⟨by rfl, fun w' _ => by go_simp⟩) ⟨C1.out _ HBS.out, C2.out _ HBS.out, HH.out⟩ ?_
          try simp only [List.getElem_toArray, List.getElem_cons_succ, List.getElem_cons_zero, Act.put, List.setIfInBounds_toArray, List.set_cons_zero, List.set_cons_succ]
          refine anyT_take [4, 12, 13] (i := 3) (v := .pointer (some ⟨ab, ao + k * 34 + 1, none⟩)) rfl (by kernel_rfl) (by kernel_rfl) (by kernel_rfl) (fun _ _ _ h => h) (by kernel_rfl) (Or.inl ⟨by rfl, fun w' _ => by go_simp⟩) ⟨C1.out _ HBS.out, C2.out _ HBS.out, HH.out⟩ ?_
          try simp only [List.getElem_toArray, List.getElem_cons_succ, List.getElem_cons_zero, Act.put, List.setIfInBounds_toArray, List.set_cons_zero, List.set_cons_succ]
          refine anyT_take [8, 9, 12, 13] (i := 7) (v := .pointer (some ⟨ab, ao + k * 34, none⟩)) rfl (by kernel_rfl) (by kernel_rfl) (by kernel_rfl) (fun _ _ _ h => h) (by kernel_rfl) (Or.inl ⟨by rfl, fun w' _ => by go_simp⟩) ⟨C1.out _ HBS.out, C2.out _ HBS.out, HH.out⟩ ?_
          try simp only [List.getElem_toArray, List.getElem_cons_succ, List.getElem_cons_zero, Act.put, List.setIfInBounds_toArray, List.set_cons_zero, List.set_cons_succ]
          refine anyT_take [9, 12, 13] (i := 8) (v := .pointer (some ⟨ab, ao + k * 34 + 2, none⟩)) rfl (by kernel_rfl) (by kernel_rfl) (by kernel_rfl) (fun _ _ _ h => h) (by kernel_rfl) (Or.inl ⟨by rfl, fun w' _ => by go_simp⟩) ⟨C1.out _ HBS.out, C2.out _ HBS.out, HH.out⟩ ?_
          try simp only [List.getElem_toArray, List.getElem_cons_succ, List.getElem_cons_zero, Act.put, List.setIfInBounds_toArray, List.set_cons_zero, List.set_cons_succ]
          refine anyT_take [12, 13] (i := 4) (v := .int .i64 (n : Int)) rfl (by kernel_rfl) (by kernel_rfl) (by kernel_rfl) (fun _ _ _ h => h) (by kernel_rfl) (Or.inl ⟨by rfl, fun w' hS => by have c := hS.1; go_simp⟩) ⟨C1.out _ HBS.out, C2.out _ HBS.out, HH.out⟩ ?_
          try simp only [List.getElem_toArray, List.getElem_cons_succ, List.getElem_cons_zero, Act.put, List.setIfInBounds_toArray, List.set_cons_zero, List.set_cons_succ]
          refine anyT_take [12, 13] (i := 9) (v := .agg (rowOf .u8 32 O)) rfl (by kernel_rfl) (by kernel_rfl) (by kernel_rfl) (fun _ _ _ h => h) (by kernel_rfl) (row_yields_mid (by rfl) 50 (.tmp 74) rfl ab (ao + k * 34 + 2) rfl .u8 32 O _ (fun _ h => h.2.1) Tryd.underlying50 rfl (by kernel_rfl)) ⟨C1.out _ HBS.out, C2.out _ HBS.out, HH.out⟩ ?_
          try simp only [List.getElem_toArray, List.getElem_cons_succ, List.getElem_cons_zero, Act.put, List.setIfInBounds_toArray, List.set_cons_zero, List.set_cons_succ]
          refine anyT_take [12, 13] (i := 11) (v := .agg (rowOf .u8 32 hk)) rfl (by kernel_rfl) (by kernel_rfl) (by kernel_rfl) (fun _ _ _ h => h) (by kernel_rfl) (row_yields (by rfl) 50 (.tmp 12) rfl g12 rfl .u8 32 hk _ (fun _ h => h.2.2) Tryd.underlying50 rfl (by kernel_rfl)) ⟨C1.out _ HBS.out, C2.out _ HBS.out, HH.out⟩ ?_
          try simp only [List.getElem_toArray, List.getElem_cons_succ, List.getElem_cons_zero, Act.put, List.setIfInBounds_toArray, List.set_cons_zero, List.set_cons_succ]
          refine anyT_one (i := 12) (by kernel_rfl) rfl (fun K hK => ?_)
          rw [if_pos (by rfl)]
          try simp only [List.getElem_toArray, List.getElem_cons_succ, List.getElem_cons_zero]
          (go_simp; refine (avNode_any (n : Int) (mk : Int) O hk _ (HE.out.below (HBT.out.trans (HBS.out.mono HBT.out.size)) HE.out.lt)).mono ?_; rintro e w7 ⟨rfl, hb⟩; rw [HUN.out]; replace HH := Lib.hid (HH.out.below hb HH.out.lt); replace HBS := Lib.hid (HBS.out.trans (hb.mono HBS.out.size)); clear hb)
          refine hK _ _ (not_mem rfl) ?_
          clear hK K
          try simp only [List.getElem_toArray, List.getElem_cons_succ, List.getElem_cons_zero, Act.put, List.setIfInBounds_toArray, List.set_cons_zero, List.set_cons_succ]
          refine anyT_one (i := 13) (by kernel_rfl) rfl (fun K hK => ?_)
          rw [if_pos (by rfl)]
          try simp only [List.getElem_toArray, List.getElem_cons_succ, List.getElem_cons_zero]
          (refine wp_store_row 50 (.tmp 12) (.tmp 78) rfl g12 (rowOf .u8 32 (avNodeF (uN (n : Int)) O mk hk)) rfl rfl 50 _ HH.out (by rw [rowOf_size]; kernel_rfl) (by rw [rowOf_size, rowOf_size]) (rowOf_one _ _ _) ?_)
          refine hK _ _ (not_mem rfl) ?_
          clear hK K
          try simp only [List.getElem_toArray, List.getElem_cons_succ, List.getElem_cons_zero, Act.put, List.setIfInBounds_toArray, List.set_cons_zero, List.set_cons_succ]
          refine anyT_done (by kernel_rfl) ?_ _
          replace HH := Lib.hid (show RowAt (w7.setRow g12 (rowOf .u8 32 (avNodeF (uN (n : Int)) O mk hk))) g12 .u8 32 50 (avNodeF (uN (n : Int)) O mk hk) from setRow_heap _ _ _ _ _ _ HH.out)
          replace HBS := Lib.hid (below_setRow HBS.out HG12.out (rowOf .u8 32 (avNodeF (uN (n : Int)) O mk hk)))
          generalize w7.setRow g12 (rowOf .u8 32 (avNodeF (uN (n : Int)) O mk hk)) = w8 at *
          have c1 := C1.out w8 HBS.out
          go_wp2_with (fail)
          go_roundw
          case rel => exact ⟨k + 1, mk + n, pk + n, avNodeF (uN (n : Int)) O mk hk, by omega, by go_num, by go_num, by go_num, Lib.hid (HSN.out.trans (by simp [upS])), Lib.hid HH.out, HBS⟩
          case measure => simp [intOf]; omega
        | false =>
          go_upto_region 16 with (fail)
          clear c0
          refine wp_region_T (fun w' => w'.cell? ⟨ab, ao + k * 34 + 1, none⟩ = some (.int .i64 (n : Int)) ∧ w'.rangeAt ab (ao + k * 34 + 2) (rowOf .u8 32 O).toList ∧ RowAt w' g12 .u8 32 50 hk) [1, 4, 5, 6, 9, 10, 11] (by kernel_rfl) ?_
          replace HH := Lib.hid (HH.out.drew)
          replace HBS := Lib.hid (HBS.out.drew)
          generalize wr.drew = w6' at *
          refine anyT_takeY (i := 2) (v := .slice (some ⟨ab, ao, none⟩) S.length sc) rfl (by kernel_rfl) (by kernel_rfl) (by kernel_rfl) (fun _ _ _ h => h) (by kernel_rfl) (Or.inl ⟨by rfl, by intro w; go_simp⟩) ?_
          try simp only [List.getElem_toArray, List.getElem_cons_succ, List.getElem_cons_zero, Act.put, List.setIfInBounds_toArray, List.set_cons_zero, List.set_cons_succ]
          refine anyT_takeY (i := 3) (v := .int .i64 (k : Int)) rfl (by kernel_rfl) (by kernel_rfl) (by kernel_rfl) (fun _ _ _ h => h) (by kernel_rfl) (Or.inl ⟨by rfl, by intro w; go_simp⟩) ?_
          try simp only [List.getElem_toArray, List.getElem_cons_succ, List.getElem_cons_zero, Act.put, List.setIfInBounds_toArray, List.set_cons_zero, List.set_cons_succ]
          refine anyT_takeY (i := 7) (v := .slice (some ⟨ab, ao, none⟩) S.length sc) rfl (by kernel_rfl) (by kernel_rfl) (by kernel_rfl) (fun _ _ _ h => h) (by kernel_rfl) (Or.inl ⟨by rfl, by intro w; go_simp⟩) ?_
          try simp only [List.getElem_toArray, List.getElem_cons_succ, List.getElem_cons_zero, Act.put, List.setIfInBounds_toArray, List.set_cons_zero, List.set_cons_succ]
          refine anyT_takeY (i := 8) (v := .int .i64 (k : Int)) rfl (by kernel_rfl) (by kernel_rfl) (by kernel_rfl) (fun _ _ _ h => h) (by kernel_rfl) (Or.inl ⟨by rfl, by intro w; go_simp⟩) ?_
          try simp only [List.getElem_toArray, List.getElem_cons_succ, List.getElem_cons_zero, Act.put, List.setIfInBounds_toArray, List.set_cons_zero, List.set_cons_succ]
          refine anyT_takeY (i := 0) (v := .int .i64 (mk : Int)) rfl (by kernel_rfl) (by kernel_rfl) (by kernel_rfl) (fun _ _ _ h => h) (by kernel_rfl) (Or.inl ⟨by rfl, by intro w; go_simp⟩) ?_
          try simp only [List.getElem_toArray, List.getElem_cons_succ, List.getElem_cons_zero, Act.put, List.setIfInBounds_toArray, List.set_cons_zero, List.set_cons_succ]
          refine anyT_take [5, 6, 12, 13] (i := 4) (v := .pointer (some ⟨ab, ao + k * 34, none⟩)) rfl (by kernel_rfl) (by kernel_rfl) (by kernel_rfl) (fun _ _ _ h => h) (by kernel_rfl) (Or.inl ⟨by rfl, fun w' _ => by go_simp⟩) ⟨C1.out _ HBS.out, C2.out _ HBS.out, HH.out⟩ ?_
          try simp only [List.getElem_toArray, List.getElem_cons_succ, List.getElem_cons_zero, Act.put, List.setIfInBounds_toArray, List.set_cons_zero, List.set_cons_succ]
          refine anyT_take [6, 12, 13] (i := 5) (v := .pointer (some ⟨ab, ao + k * 34 + 1, none⟩)) rfl (by kernel_rfl) (by kernel_rfl) (by kernel_rfl) (fun _ _ _ h => h) (by kernel_rfl) (Or.inl ⟨by rfl, fun w' _ => by go_simp⟩) ⟨C1.out _ HBS.out, C2.out _ HBS.out, HH.out⟩ ?_
          try simp only [List.getElem_toArray, List.getElem_cons_succ, List.getElem_cons_zero, Act.put, List.setIfInBounds_toArray, List.set_cons_zero, List.set_cons_succ]
          refine anyT_take [10, 11, 12, 13] (i := 9) (v := .pointer (some ⟨ab, ao + k * 34, none⟩)) rfl (by kernel_rfl) (by kernel_rfl) (by kernel_rfl) (fun _ _ _ h => h) (by kernel_rfl) (Or.inl ⟨by rfl, fun w' _ => by go_simp⟩) ⟨C1.out _ HBS.out, C2.out _ HBS.out, HH.out⟩ ?_
          try simp only [List.getElem_toArray, List.getElem_cons_succ, List.getElem_cons_zero, Act.put, List.setIfInBounds_toArray, List.set_cons_zero, List.set_cons_succ]
          refine anyT_take [11, 12, 13] (i := 10) (v := .pointer (some ⟨ab, ao + k * 34 + 2, none⟩)) rfl (by kernel_rfl) (by kernel_rfl) (by kernel_rfl) (fun _ _ _ h => h) (by kernel_rfl) (Or.inl ⟨by rfl, fun w' _ => by go_simp⟩) ⟨C1.out _ HBS.out, C2.out _ HBS.out, HH.out⟩ ?_
          try simp only [List.getElem_toArray, List.getElem_cons_succ, List.getElem_cons_zero, Act.put, List.setIfInBounds_toArray, List.set_cons_zero, List.set_cons_succ]
          refine anyT_take [12, 13] (i := 6) (v := .int .i64 (n : Int)) rfl (by kernel_rfl) (by kernel_rfl) (by kernel_rfl) (fun _ _ _ h => h) (by kernel_rfl) (Or.inl ⟨by rfl, fun w' hS => by have c := hS.1; go_simp⟩) ⟨C1.out _ HBS.out, C2.out _ HBS.out, HH.out⟩ ?_
          try simp only [List.getElem_toArray, List.getElem_cons_succ, List.getElem_cons_zero, Act.put, List.setIfInBounds_toArray, List.set_cons_zero, List.set_cons_succ]
          refine anyT_take [12, 13] (i := 11) (v := .agg (rowOf .u8 32 O)) rfl (by kernel_rfl) (by kernel_rfl) (by kernel_rfl) (fun _ _ _ h => h) (by kernel_rfl) (row_yields_mid (by rfl) 50 (.tmp 96) rfl ab (ao + k * 34 + 2) rfl .u8 32 O _ (fun _ h => h.2.1) Tryd.underlying50 rfl (by kernel_rfl)) ⟨C1.out _ HBS.out, C2.out _ HBS.out, HH.out⟩ ?_
          try simp only [List.getElem_toArray, List.getElem_cons_succ, List.getElem_cons_zero, Act.put, List.setIfInBounds_toArray, List.set_cons_zero, List.set_cons_succ]
          refine anyT_take [12, 13] (i := 1) (v := .agg (rowOf .u8 32 hk)) rfl (by kernel_rfl) (by kernel_rfl) (by kernel_rfl) (fun _ _ _ h => h) (by kernel_rfl) (row_yields (by rfl) 50 (.tmp 12) rfl g12 rfl .u8 32 hk _ (fun _ h => h.2.2) Tryd.underlying50 rfl (by kernel_rfl)) ⟨C1.out _ HBS.out, C2.out _ HBS.out, HH.out⟩ ?_
          try simp only [List.getElem_toArray, List.getElem_cons_succ, List.getElem_cons_zero, Act.put, List.setIfInBounds_toArray, List.set_cons_zero, List.set_cons_succ]
          refine anyT_one (i := 12) (by kernel_rfl) rfl (fun K hK => ?_)
          rw [if_pos (by rfl)]
          try simp only [List.getElem_toArray, List.getElem_cons_succ, List.getElem_cons_zero]
          (go_simp; refine (avNode_any (mk : Int) (n : Int) hk O _ (HE.out.below (HBT.out.trans (HBS.out.mono HBT.out.size)) HE.out.lt)).mono ?_; rintro e w7 ⟨rfl, hb⟩; rw [HUN.out]; replace HH := Lib.hid (HH.out.below hb HH.out.lt); replace HBS := Lib.hid (HBS.out.trans (hb.mono HBS.out.size)); clear hb)
          refine hK _ _ (not_mem rfl) ?_
          clear hK K
          try simp only [List.getElem_toArray, List.getElem_cons_succ, List.getElem_cons_zero, Act.put, List.setIfInBounds_toArray, List.set_cons_zero, List.set_cons_succ]
          refine anyT_one (i := 13) (by kernel_rfl) rfl (fun K hK => ?_)
          rw [if_pos (by rfl)]
          try simp only [List.getElem_toArray, List.getElem_cons_succ, List.getElem_cons_zero]
          (refine wp_store_row 50 (.tmp 12) (.tmp 98) rfl g12 (rowOf .u8 32 (avNodeF mk hk (uN (n : Int)) O)) rfl rfl 50 _ HH.out (by rw [rowOf_size]; kernel_rfl) (by rw [rowOf_size, rowOf_size]) (rowOf_one _ _ _) ?_)
          refine hK _ _ (not_mem rfl) ?_
          clear hK K
          try simp only [List.getElem_toArray, List.getElem_cons_succ, List.getElem_cons_zero, Act.put, List.setIfInBounds_toArray, List.set_cons_zero, List.set_cons_succ]
          refine anyT_done (by kernel_rfl) ?_ _
          replace HH := Lib.hid (show RowAt (w7.setRow g12 (rowOf .u8 32 (avNodeF mk hk (uN (n : Int)) O))) g12 .u8 32 50 (avNodeF mk hk (uN (n : Int)) O) from setRow_heap _ _ _ _ _ _ HH.out)
          replace HBS := Lib.hid (below_setRow HBS.out HG12.out (rowOf .u8 32 (avNodeF mk hk (uN (n : Int)) O)))
          generalize w7.setRow g12 (rowOf .u8 32 (avNodeF mk hk (uN (n : Int)) O)) = w8 at *
          have c1 := C1.out w8 HBS.out
          go_wp2_with (fail)
          go_roundw
          case rel => exact ⟨k + 1, mk + n, pk, avNodeF mk hk (uN (n : Int)) O, by omega, by go_num, rfl, by go_num, Lib.hid (HSN.out.trans (by simp [upS])), Lib.hid HH.out, HBS⟩
          case measure => simp [intOf]; omega
      · obtain rfl : k = S.length := by omega
        have hfin := HF.out
        rw [List.take_length, HFO.out] at hfin
        injection hfin with f1 f2
        injection f2 with f2 f3
        subst f1 f2 f3
        clear HF HFO
        go_upto_region 18 with (fail)
        refine wp_region_T (fun w' => RowAt w' g12 .u8 32 50 R ∧ w'.cell? ⟨g8, 0, none⟩ = some (.string key)) [0, 2, 7, 18] (by kernel_rfl) ?_
        replace HH := Lib.hid (HH.out.drew)
        replace HBS := Lib.hid (HBS.out.drew)
        generalize wr.drew = w6' at *
        refine anyT_takeY (i := 1) (v := (.pointer (some ⟨gt, 0, none⟩))) rfl (by kernel_rfl) (by kernel_rfl) (by kernel_rfl) (fun _ _ _ h => h) (by kernel_rfl) (Or.inl ⟨by rfl, by intro w; go_simp⟩) ?_
        try simp only [List.getElem_toArray, List.getElem_cons_succ, List.getElem_cons_zero, Act.put, List.setIfInBounds_toArray, List.set_cons_zero, List.set_cons_succ]
        refine anyT_take [3, 4, 5, 6, 7, 8, 9, 10, 11, 12, 13, 14, 15, 16, 17, 18, 19, 20, 21, 22, 23, 24, 25, 26] (i := 0) (v := .agg (rowOf .u8 32 R)) rfl (by kernel_rfl) (by kernel_rfl) (by kernel_rfl) (fun _ _ _ h => h) (by kernel_rfl) (row_yields (by rfl) 50 (.tmp 12) rfl g12 rfl .u8 32 R _ (fun _ h => h.1) Tryd.underlying50 rfl (by kernel_rfl)) ⟨HH.out, HCK.out _ HBS.out⟩ ?_
        try simp only [List.getElem_toArray, List.getElem_cons_succ, List.getElem_cons_zero, Act.put, List.setIfInBounds_toArray, List.set_cons_zero, List.set_cons_succ]
        refine anyT_one (i := 2) (by kernel_rfl) rfl (fun K hK => ?_)
        rw [if_pos (by rfl)]
        try simp only [List.getElem_toArray, List.getElem_cons_succ, List.getElem_cons_zero]
        (go_simp; refine (HRT.out _ (HTT.out.below HBS.out)).mono ?_; rintro e w7 ⟨rfl, hb⟩; replace HH := Lib.hid (HH.out.below hb HH.out.lt); replace HBS := Lib.hid (HBS.out.trans (hb.mono HBS.out.size)); clear hb)
        refine hK _ _ (fun _ => ⟨HH.out, HCK.out _ HBS.out⟩) ?_
        clear hK K
        try simp only [List.getElem_toArray, List.getElem_cons_succ, List.getElem_cons_zero, Act.put, List.setIfInBounds_toArray, List.set_cons_zero, List.set_cons_succ]
        refine anyT_takeY (i := 3) (v := .bool true) rfl (by kernel_rfl) (by kernel_rfl) (by kernel_rfl) (fun _ _ _ h => h) (by kernel_rfl) (Or.inl ⟨by rfl, by intro w; have h := eqIn32_self R w; go_simp⟩) ?_
        try simp only [List.getElem_toArray, List.getElem_cons_succ, List.getElem_cons_zero, Act.put, List.setIfInBounds_toArray, List.set_cons_zero, List.set_cons_succ]
        refine anyT_takeY (i := 4) (v := .bool true) rfl (by kernel_rfl) (by kernel_rfl) (by kernel_rfl) (fun _ _ _ h => h) (by kernel_rfl) (Or.inl ⟨by rfl, by intro w; go_simp⟩) ?_
        try simp only [List.getElem_toArray, List.getElem_cons_succ, List.getElem_cons_zero, Act.put, List.setIfInBounds_toArray, List.set_cons_zero, List.set_cons_succ]
        refine anyT_takeY (i := 5) (v := .int .i64 (m : Int)) rfl (by kernel_rfl) (by kernel_rfl) (by kernel_rfl) (fun _ _ _ h => h) (by kernel_rfl) (Or.inl ⟨by rfl, by intro w; go_simp⟩) ?_
        try simp only [List.getElem_toArray, List.getElem_cons_succ, List.getElem_cons_zero, Act.put, List.setIfInBounds_toArray, List.set_cons_zero, List.set_cons_succ]
        refine anyT_takeY (i := 6) (v := (.pointer (some ⟨gt, 0, none⟩))) rfl (by kernel_rfl) (by kernel_rfl) (by kernel_rfl) (fun _ _ _ h => h) (by kernel_rfl) (Or.inl ⟨by rfl, by intro w; go_simp⟩) ?_
        try simp only [List.getElem_toArray, List.getElem_cons_succ, List.getElem_cons_zero, Act.put, List.setIfInBounds_toArray, List.set_cons_zero, List.set_cons_succ]
        refine anyT_one (i := 7) (by kernel_rfl) rfl (fun K hK => ?_)
        rw [if_pos (by rfl)]
        try simp only [List.getElem_toArray, List.getElem_cons_succ, List.getElem_cons_zero]
        (go_simp; refine (HLE.out _ (HTT.out.below HBS.out)).mono ?_; rintro e w8 ⟨rfl, rfl⟩)
        refine hK _ _ (fun _ => ⟨HH.out, HCK.out _ HBS.out⟩) ?_
        clear hK K
        try simp only [List.getElem_toArray, List.getElem_cons_succ, List.getElem_cons_zero, Act.put, List.setIfInBounds_toArray, List.set_cons_zero, List.set_cons_succ]
        refine anyT_takeY (i := 8) (v := .bool true) rfl (by kernel_rfl) (by kernel_rfl) (by kernel_rfl) (fun _ _ _ h => h) (by kernel_rfl) (Or.inl ⟨by rfl, by intro w; go_simp⟩) ?_
        try simp only [List.getElem_toArray, List.getElem_cons_succ, List.getElem_cons_zero, Act.put, List.setIfInBounds_toArray, List.set_cons_zero, List.set_cons_succ]
        refine anyT_takeY (i := 9) (v := .bool true) rfl (by kernel_rfl) (by kernel_rfl) (by kernel_rfl) (fun _ _ _ h => h) (by kernel_rfl) (Or.inl ⟨by rfl, by intro w; go_simp⟩) ?_
        try simp only [List.getElem_toArray, List.getElem_cons_succ, List.getElem_cons_zero, Act.put, List.setIfInBounds_toArray, List.set_cons_zero, List.set_cons_succ]
        refine anyT_takeY (i := 10) (v := .bool true) rfl (by kernel_rfl) (by kernel_rfl) (by kernel_rfl) (fun _ _ _ h => h) (by kernel_rfl) (Or.inl ⟨by rfl, by intro w; go_simp⟩) ?_
        try simp only [List.getElem_toArray, List.getElem_cons_succ, List.getElem_cons_zero, Act.put, List.setIfInBounds_toArray, List.set_cons_zero, List.set_cons_succ]
        refine anyT_takeY (i := 11) (v := .int .i64 (i : Int)) rfl (by kernel_rfl) (by kernel_rfl) (by kernel_rfl) (fun _ _ _ h => h) (by kernel_rfl) (Or.inl ⟨by rfl, by intro w; go_simp⟩) ?_
        try simp only [List.getElem_toArray, List.getElem_cons_succ, List.getElem_cons_zero, Act.put, List.setIfInBounds_toArray, List.set_cons_zero, List.set_cons_succ]
        refine anyT_takeY (i := 12) (v := .int .i64 (i : Int)) rfl (by kernel_rfl) (by kernel_rfl) (by kernel_rfl) (fun _ _ _ h => h) (by kernel_rfl) (Or.inl ⟨by rfl, by intro w; go_simp⟩) ?_
        try simp only [List.getElem_toArray, List.getElem_cons_succ, List.getElem_cons_zero, Act.put, List.setIfInBounds_toArray, List.set_cons_zero, List.set_cons_succ]
        refine anyT_takeY (i := 13) (v := .bool true) rfl (by kernel_rfl) (by kernel_rfl) (by kernel_rfl) (fun _ _ _ h => h) (by kernel_rfl) (Or.inl ⟨by rfl, by intro w; go_simp⟩) ?_
        try simp only [List.getElem_toArray, List.getElem_cons_succ, List.getElem_cons_zero, Act.put, List.setIfInBounds_toArray, List.set_cons_zero, List.set_cons_succ]
        refine anyT_takeY (i := 14) (v := .bool true) rfl (by kernel_rfl) (by kernel_rfl) (by kernel_rfl) (fun _ _ _ h => h) (by kernel_rfl) (Or.inl ⟨by rfl, by intro w; go_simp⟩) ?_
        try simp only [List.getElem_toArray, List.getElem_cons_succ, List.getElem_cons_zero, Act.put, List.setIfInBounds_toArray, List.set_cons_zero, List.set_cons_succ]
        refine anyT_takeY (i := 15) (v := .bool true) rfl (by kernel_rfl) (by kernel_rfl) (by kernel_rfl) (fun _ _ _ h => h) (by kernel_rfl) (Or.inl ⟨by rfl, by intro w; go_simp⟩) ?_
        try simp only [List.getElem_toArray, List.getElem_cons_succ, List.getElem_cons_zero, Act.put, List.setIfInBounds_toArray, List.set_cons_zero, List.set_cons_succ]
        refine anyT_takeY (i := 16) (v := (.pointer (some ⟨gt, 0, none⟩))) rfl (by kernel_rfl) (by kernel_rfl) (by kernel_rfl) (fun _ _ _ h => h) (by kernel_rfl) (Or.inl ⟨by rfl, by intro w; go_simp⟩) ?_
        try simp only [List.getElem_toArray, List.getElem_cons_succ, List.getElem_cons_zero, Act.put, List.setIfInBounds_toArray, List.set_cons_zero, List.set_cons_succ]
        refine anyT_takeY (i := 17) (v := .pointer (some ⟨g8, 0, none⟩)) rfl (by kernel_rfl) (by kernel_rfl) (by kernel_rfl) (fun _ _ _ h => h) (by kernel_rfl) (Or.inl ⟨by rfl, by intro w; go_simp⟩) ?_
        try simp only [List.getElem_toArray, List.getElem_cons_succ, List.getElem_cons_zero, Act.put, List.setIfInBounds_toArray, List.set_cons_zero, List.set_cons_succ]
        refine anyT_takeY (i := 20) (v := .int .i64 (i : Int)) rfl (by kernel_rfl) (by kernel_rfl) (by kernel_rfl) (fun _ _ _ h => h) (by kernel_rfl) (Or.inl ⟨by rfl, by intro w; go_simp⟩) ?_
        try simp only [List.getElem_toArray, List.getElem_cons_succ, List.getElem_cons_zero, Act.put, List.setIfInBounds_toArray, List.set_cons_zero, List.set_cons_succ]
        refine anyT_take [19, 21, 22, 23, 24, 25, 26] (i := 18) (v := .string key) rfl (by kernel_rfl) (by kernel_rfl) (by kernel_rfl) (fun _ _ _ h => h) (by kernel_rfl) (Or.inl ⟨by rfl, fun w' hS => by have c := hS.2; go_simp⟩) ⟨HH.out, HCK.out _ HBS.out⟩ ?_
        try simp only [List.getElem_toArray, List.getElem_cons_succ, List.getElem_cons_zero, Act.put, List.setIfInBounds_toArray, List.set_cons_zero, List.set_cons_succ]
        refine anyT_one (i := 19) (by kernel_rfl) rfl (fun K hK => ?_)
        rw [if_pos (by rfl)]
        try simp only [List.getElem_toArray, List.getElem_cons_succ, List.getElem_cons_zero]
        (go_simp; refine (HFI.out _ (HTT.out.below HBS.out)).mono ?_; rintro e w9 ⟨rfl, rfl⟩)
        refine hK _ _ (not_mem rfl) ?_
        clear hK K
        try simp only [List.getElem_toArray, List.getElem_cons_succ, List.getElem_cons_zero, Act.put, List.setIfInBounds_toArray, List.set_cons_zero, List.set_cons_succ]
        refine anyT_takeY (i := 21) (v := .bool true) rfl (by kernel_rfl) (by kernel_rfl) (by kernel_rfl) (fun _ _ _ h => h) (by kernel_rfl) (Or.inl ⟨by rfl, by intro w; go_simp⟩) ?_
        try simp only [List.getElem_toArray, List.getElem_cons_succ, List.getElem_cons_zero, Act.put, List.setIfInBounds_toArray, List.set_cons_zero, List.set_cons_succ]
        refine anyT_takeY (i := 22) (v := .bool true) rfl (by kernel_rfl) (by kernel_rfl) (by kernel_rfl) (fun _ _ _ h => h) (by kernel_rfl) (Or.inl ⟨by rfl, by intro w; go_simp⟩) ?_
        try simp only [List.getElem_toArray, List.getElem_cons_succ, List.getElem_cons_zero, Act.put, List.setIfInBounds_toArray, List.set_cons_zero, List.set_cons_succ]
        refine anyT_takeY (i := 23) (v := .bool true) rfl (by kernel_rfl) (by kernel_rfl) (by kernel_rfl) (fun _ _ _ h => h) (by kernel_rfl) (Or.inl ⟨by rfl, by intro w; go_simp⟩) ?_
        try simp only [List.getElem_toArray, List.getElem_cons_succ, List.getElem_cons_zero, Act.put, List.setIfInBounds_toArray, List.set_cons_zero, List.set_cons_succ]
        refine anyT_one (i := 24) (by kernel_rfl) rfl (fun K hK => ?_)
        rw [if_pos (by rfl)]
        try simp only [List.getElem_toArray, List.getElem_cons_succ, List.getElem_cons_zero]
        (go_simp; refine (avsure_any _ (HE.out.below (HBT.out.trans (HBS.out.mono HBT.out.size)) HE.out.lt)).mono ?_; rintro e w10 ⟨rfl, hb⟩; replace HBS := Lib.hid (HBS.out.trans (hb.mono HBS.out.size)); clear hb)
        refine hK _ _ (not_mem rfl) ?_
        clear hK K
        try simp only [List.getElem_toArray, List.getElem_cons_succ, List.getElem_cons_zero, Act.put, List.setIfInBounds_toArray, List.set_cons_zero, List.set_cons_succ]
        refine anyT_takeY (i := 25) (v := .bool true) rfl (by kernel_rfl) (by kernel_rfl) (by kernel_rfl) (fun _ _ _ h => h) (by kernel_rfl) (Or.inl ⟨by rfl, by intro w; go_simp⟩) ?_
        try simp only [List.getElem_toArray, List.getElem_cons_succ, List.getElem_cons_zero, Act.put, List.setIfInBounds_toArray, List.set_cons_zero, List.set_cons_succ]
        refine anyT_takeY (i := 26) (v := .bool true) rfl (by kernel_rfl) (by kernel_rfl) (by kernel_rfl) (fun _ _ _ h => h) (by kernel_rfl) (Or.inl ⟨by rfl, by intro w; go_simp⟩) ?_
        try simp only [List.getElem_toArray, List.getElem_cons_succ, List.getElem_cons_zero, Act.put, List.setIfInBounds_toArray, List.set_cons_zero, List.set_cons_succ]
        refine anyT_done (by kernel_rfl) ?_ _
        go_wp2_with (fail)
        go_ret
        exact ⟨rfl, HBT.out.trans (HBS.out.mono HBT.out.size)⟩
end Go.Proofs.YtlhfdkkeanchcaaDoor

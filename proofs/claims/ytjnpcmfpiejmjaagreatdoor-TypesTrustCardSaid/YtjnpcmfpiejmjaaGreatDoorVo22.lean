/- Part 22 of the proof. -/
import Derived.Deep.RegionHeld3
import Derived.Test.YtjnpcmfpiejmjaaGreatDoorVo1
import Derived.Test.YtjnpcmfpiejmjaaGreatDoorVo4
import Derived.Test.YtjnpcmfpiejmjaaGreatDoorVo18
import Derived.Test.YtjnpcmfpiejmjaaGreatDoorVo20
import Derived.Test.YtjnpcmfpiejmjaaGreatDoorVo21
namespace Go.Proofs.YtjnpcmfpiejmjaaGreatDoor
set_option linter.unusedVariables false
set_option linter.unusedSimpArgs false
open Go.RowKit
set_option maxRecDepth 100000
theorem sig_cells (w : World) (q leaf : Nat) (vo vp : Value) (h : w.heap[q]? = some (.cells (sgC leaf vo vp) 198 (0, 0))) : w.cell? ⟨q, 0, none⟩ = some (.int .i64 (leaf : Int)) ∧ w.cell? ⟨q, 1, none⟩ = some vo ∧ w.cell? ⟨q, 2, none⟩ = some vp ∧ ∀ i, w.frozen? ⟨q, i, none⟩ = false :=
  ⟨by rw [cell_of_row _ _ _ _ _ _ h]; rfl, by rw [cell_of_row _ _ _ _ _ _ h]; rfl, by rw [cell_of_row _ _ _ _ _ _ h]; rfl, fun i => frozen_of_row _ _ _ _ _ h⟩
theorem hashS_ne (s : RSt) (h : (hashS s).2.1 ≠ []) : s.1 ≠ [] := by
  rintro e
  obtain ⟨ys, x⟩ := s
  subst e
  cases x with
  | some x => exact h rfl
  | none => exact h rfl
/-- ahead of the loop -/
theorem dec_start {w w' : World} {p q leaf : Nat} {vo : Value} {once : List Int} {s : RSt} (hb : Below w.heap.size w w') (hres : w'.heap[w.heap.size]? = some (.cells (sgC 0 (.slice none 0 0) (.slice none 0 0)) 198 (0, 0)))
    (hsig : w'.heap[q]? = some (.cells (sgC leaf vo (.slice none 0 0)) 198 (0, 0))) (hvo : ∃ a n c, vo = .slice a n c) (hrd : RS w' p s) (ho : BytesIn w' vo once) (hoq : once ≠ [] → ∀ k, vo.ownBlock = some k → q < k) (hp : w.heap.size < p) (hq : p < q) :
    DecM w w' p q w'.heap.size leaf vo (.slice none 0 0) once s [] := by
  obtain ⟨y, hy⟩ := hrd
  obtain ⟨a, n, c, rfl⟩ := hvo
  exact ⟨hb, hres, hsig, ⟨y, hy, fun hn k hk => ⟨hy.off hsig hn k hk, hy.own_lt hn k hk⟩⟩, ho, fun hn k hk => ⟨hoq hn k hk, bytes_own_lt ho hn k hk⟩, World.ownsRow_nil _ _ _ _, hp, hq, (Array.getElem?_eq_some_iff.1 hsig).1, Nat.le_refl _⟩
theorem RS.store {w : World} {p q leaf i : Nat} {s : RSt} {v : Value} {a b : Option Addr} {n c m d : Nat} (h : RS w p s) (hq : w.heap[q]? = some (.cells (sgC leaf (.slice a n c) (.slice b m d)) 198 (0, 0))) (hne : p ≠ q) : RS (w.setCell ⟨q, i, none⟩ v) p s := by
  obtain ⟨y, hy⟩ := h
  have hO := Only.setCell w ⟨q, i, none⟩ v
  exact ⟨y, hy.keep (hO.block p hy.lt hne) fun hn k hk => hO.block k (hy.own_lt hn k hk) (hy.off hq hn k hk)⟩
theorem sgz_one (leaf : Nat) : (sgC leaf (.slice none 0 0) (.slice none 0 0)).all (·.oneCell') = true := by simp [sgC, Value.oneCell']
theorem sg_one (leaf : Nat) (a b : Option Addr) (n c m d : Nat) : (sgC leaf (.slice a n c) (.slice b m d)).all (·.oneCell') = true := by simp [sgC, Value.oneCell']
theorem flat_wide {w : World} {B n : Nat} {v : Value} {vs : List Value} (h : w.ownsRow B 32 32 v n vs) : ∃ a c, v = .slice a n c := by
  rcases h.2 with ⟨rfl, h0⟩ | ⟨g, c, _, rfl, _⟩
  · exact ⟨none, 0, by rw [h0]⟩
  · exact ⟨_, c, rfl⟩
set_option maxHeartbeats 4000000 in
theorem kdecode_any (v : Value) (xs : List Int) (w : World) (hx : BytesIn w v xs) (hb : bytesOk xs) (hl : xs.length ≤ 140737488355328) :
    Calls Tryz.prog 137 #[v] w fun e w' => ∃ vo vp, e = .returned (.tuple #[.agg (sgC (decS xs).1.leaf vo vp), errV (decS xs).2]) ∧ BytesIn w' vo (decS xs).1.once ∧ HashesIn w' vp (decS xs).1.path ∧ Below w.heap.size w w' := by
  have HX := Lib.hid hx
  have HXB := Lib.hid hb
  have HXL := Lib.hid hl
  obtain ⟨a, s1, h1⟩ : ∃ a s1, uintS (xs, none) 1023 = (a, s1) := ⟨_, _, rfl⟩
  obtain ⟨on, s2, h2⟩ : ∃ on s2, partS s1 4096 = (on, s2) := ⟨_, _, rfl⟩
  obtain ⟨c, s3, h3⟩ : ∃ c s3, uintS s2 10 = (c, s3) := ⟨_, _, rfl⟩
  have ha : a ≤ 1023 := by have := uintS_le (xs, none) 1023; rw [h1] at this; exact this
  have hc : c ≤ 10 := by have := uintS_le s2 10; rw [h3] at this; exact this
  have U1 := Lib.hid (show ∀ w p, RS w p (xs, none) → Calls Tryz.prog 173 #[.pointer (some ⟨p, 0, none⟩), .int .u64 1023] w fun r w' => r = .returned (.int .u64 (a : Int)) ∧ RS w' p s1 ∧ Only p w w' from fun w p h => by
    have := uint_any p (xs, none) 1023 w h; rw [h1] at this; exact this)
  have U2 := Lib.hid (show ∀ w p, RS w p s1 → Calls Tryz.prog 155 #[.pointer (some ⟨p, 0, none⟩), .int .i64 4096] w fun r w' => ∃ v, r = .returned v ∧ BytesIn w' v on ∧ (∀ j, v.ownBlock = some j → w.heap.size ≤ j) ∧ RS w' p s2 ∧ Only p w w' from fun w p h => by
    have := rbytes_any p s1 4096 w h (by omega) (by omega); rw [h2] at this; exact this)
  have U3 := Lib.hid (show ∀ w p, RS w p s2 → Calls Tryz.prog 173 #[.pointer (some ⟨p, 0, none⟩), .int .u64 10] w fun r w' => r = .returned (.int .u64 (c : Int)) ∧ RS w' p s3 ∧ Only p w w' from fun w p h => by
    have := uint_any p s2 10 w h; rw [h3] at this; exact this)
  have HD := Lib.hid (show decS xs = if doneE (hashesS s3 c).2 = none then (⟨a, on, (hashesS s3 c).1⟩, none) else (zSg, some 3) by
    unfold decS sD sC sB sA; rw [h1]; simp only; rw [h2]; simp only; rw [h3])
  clear hx hb hl h1 h2 h3
  have HB := Lib.hid (below_alloc w (.cells (sgC 0 (.slice none 0 0) (.slice none 0 0)) 198))
  have HRES := Lib.hid (heap_alloc_new w (.cells (sgC 0 (.slice none 0 0) (.slice none 0 0)) 198))
  unfold sgC at HB HRES
  go_enter Tryz.func137, Tryz.ntmps137
  go_upto_region 1 with (fail)
  rw [show ((0 : Nat) : Int) = 0 from rfl] at HB HRES
  generalize w.alloc (.cells #[.int .i64 0, .slice none 0 0, .slice none 0 0] 198) = w1 at *
  have HW1 := Lib.hid (Array.getElem?_eq_some_iff.1 HRES.out).1
  go_upto_region 3 with (first
    | (go_at_call 116; (with_reducible refine (read_any v xs _ (HX.out.below HB.out) HXB.out HXL.out).mono ?_); rintro e w2 ⟨p, y, rfl, hp, hr, hb2⟩; have HP := Lib.hid hp; have RS0 := Lib.hid (show RS w2 p (xs, none) from ⟨y, hr⟩); replace HRES := Lib.hid ((hb2.block _ HW1.out).trans HRES.out); replace HB := Lib.hid (HB.out.trans (hb2.mono HB.out.size)); clear hp hr hb2)
    | (go_at_call 173; (with_reducible refine (U1.out _ p RS0.out).mono ?_); rintro e w3 ⟨rfl, hrs, ho⟩; replace RS0 := Lib.hid hrs; replace HRES := Lib.hid ((ho.block _ (Array.getElem?_eq_some_iff.1 HRES.out).1 (by have := HP.out; have := HW1.out; omega)).trans HRES.out); replace HB := Lib.hid (HB.out.trans (ho.below (by have := HP.out; have := HW1.out; omega) HB.out.size)); clear hrs ho)
    | (refine wpList_store_row rfl 198 (.tmp 5) (.tmp 11) rfl w3.heap.size (sgC a (.slice none 0 0) (.slice none 0 0)) rfl rfl 198 _ (heap_alloc_new _ _) (by kernel_rfl) (by rfl) (sgz_one a) ?_; rw [World.setRow_alloc_new]))
  obtain ⟨q, hq⟩ : ∃ q, q = w3.heap.size := ⟨_, rfl⟩
  have HPQ := Lib.hid (show p < q by obtain ⟨y, hy⟩ := RS0.out; rw [hq]; exact hy.lt)
  have SIG := Lib.hid (heap_alloc_new w3 (.cells (sgC a (.slice none 0 0) (.slice none 0 0)) 198))
  replace RS0 := Lib.hid (show RS (w3.alloc (.cells (sgC a (.slice none 0 0) (.slice none 0 0)) 198)) p s1 by obtain ⟨y, hy⟩ := RS0.out; exact ⟨y, hy.below (below_alloc _ _)⟩)
  replace HRES := Lib.hid (((below_alloc w3 (.cells (sgC a (.slice none 0 0) (.slice none 0 0)) 198)).block _ (Array.getElem?_eq_some_iff.1 HRES.out).1).trans HRES.out)
  replace HB := Lib.hid (HB.out.trans ((below_alloc w3 (.cells (sgC a (.slice none 0 0) (.slice none 0 0)) 198)).mono HB.out.size))
  rw [← hq] at SIG ⊢
  replace hq := Lib.hid hq
  generalize w3.alloc (.cells (sgC a (.slice none 0 0) (.slice none 0 0)) 198) = w4 at *
  go_upto_region 4 with (go_at_call 155; (with_reducible refine (U2.out _ p RS0.out).mono ?_); rintro e w5 ⟨vo, rfl, hxo, hown, hrs, ho⟩; obtain ⟨av, cv, rfl, -⟩ := id hxo; have HXO := Lib.hid hxo; have HOWN := Lib.hid hown; replace RS0 := Lib.hid hrs; replace HRES := Lib.hid ((ho.block _ (Array.getElem?_eq_some_iff.1 HRES.out).1 (by have := HP.out; have := HW1.out; omega)).trans HRES.out); replace HB := Lib.hid (HB.out.trans (ho.below (by have := HP.out; have := HW1.out; omega) HB.out.size)); have HQ4 := Lib.hid (Array.getElem?_eq_some_iff.1 SIG.out).1; replace SIG := Lib.hid ((ho.block _ HQ4.out (by have := HPQ.out; omega)).trans SIG.out); obtain ⟨-, cc1, -, ff⟩ := sig_cells _ _ _ _ _ SIG.out; have ff1 := ff 1; clear hxo hown hrs ho ff)
  clear cc1 ff1
  have HO5 := Lib.hid (Only.setCell w5 ⟨q, 1, none⟩ (.slice av on.length cv))
  replace RS0 := Lib.hid (RS0.out.store (i := 1) (v := (.slice av on.length cv)) SIG.out (by have := HPQ.out; omega))
  have HOQ := Lib.hid (show on ≠ [] → ∀ k, (Value.slice av on.length cv).ownBlock = some k → q < k from fun _ k hk => by have := HOWN.out k hk; have := HQ4.out; omega)
  replace HXO := Lib.hid (HXO.out.only0 HO5.out fun hn k hk => by show k ≠ q; have := HOQ.out hn k hk; omega)
  replace HRES := Lib.hid ((HO5.out.block _ (Array.getElem?_eq_some_iff.1 HRES.out).1 (by show _ ≠ q; have := HP.out; have := HW1.out; have := HPQ.out; omega)).trans HRES.out)
  replace SIG := Lib.hid ((heap_setCell_same w5 q 1 _ _ (.slice av on.length cv) SIG.out))
  replace HB := Lib.hid (HB.out.trans (HO5.out.below (by show _ ≤ q; have := HP.out; have := HW1.out; have := HPQ.out; omega) HB.out.size))
  rw [sgC_set1] at SIG
  clear HOWN HQ4 HO5
  generalize w5.setCell ⟨q, 1, none⟩ (.slice av on.length cv) = w6 at *
  generalize hvo : Value.slice av on.length cv = vo at *
  go_wp2_with (go_at_call 173; (with_reducible refine (U3.out _ p RS0.out).mono ?_); rintro e w7 ⟨rfl, hrs, ho⟩; replace RS0 := Lib.hid hrs; replace HRES := Lib.hid ((ho.block _ (Array.getElem?_eq_some_iff.1 HRES.out).1 (by have := HP.out; have := HW1.out; omega)).trans HRES.out); replace HB := Lib.hid (HB.out.trans (ho.below (by have := HP.out; have := HW1.out; omega) HB.out.size)); replace SIG := Lib.hid ((ho.block _ (Array.getElem?_eq_some_iff.1 SIG.out).1 (by have := HPQ.out; omega)).trans SIG.out); replace HXO := Lib.hid (HXO.out.only0 ho fun hn k hk => by have := HOQ.out hn k hk; have := HPQ.out; omega); clear hrs ho)
  have M := Lib.hid (dec_start HB.out HRES.out SIG.out ⟨av, _, cv, hvo.symm⟩ RS0.out HXO.out HOQ.out (by have := HP.out; have := HW1.out; omega) HPQ.out)
  clear RS0 HXO SIG HRES HB
  obtain ⟨B, hB⟩ : ∃ B, B = w7.heap.size := ⟨_, rfl⟩
  rw [← hB] at M
  replace hB := Lib.hid hB
  go_loopw [17] (fun i wr => ∃ k : Nat, k ≤ c ∧ i = .int .u64 (k : Int) ∧ Hid (∃ vp, DecM w wr p q B a vo vp on (hashesS s3 k).2 (hashesS s3 k).1)) (fun i _ => c - (intOf i).toNat)
  case atStart => exact ⟨0, Nat.zero_le _, rfl, Lib.hid ⟨_, M.out⟩⟩
  case round =>
    clear M
    obtain ⟨k, hk, rfl, M⟩ := hrel
    obtain ⟨vp, M⟩ := M.out
    replace M := Lib.hid M
    by_cases hlt : k < c
    · have hkI : (k : Int) < (c : Int) := by omega
      obtain ⟨ap, cp, hvp⟩ := flat_wide M.out.path
      have HVO := Lib.hid hvo
      have HVP := Lib.hid hvp
      subst hvp
      go_upto_region 6 with (fail)
      refine wp_region_T (fun w' => w'.heap[q]? = some (.cells (sgC a vo (.slice ap (hashesS s3 k).1.length cp)) 198 (0, 0))) [3, 4] (by kernel_rfl) ?_
      replace M := Lib.hid (M.out.call ((Below.refl _ wr).drew))
      generalize wr.drew = w8 at *
      obtain ⟨f, hf⟩ : ∃ f, f = (hashS (hashesS s3 k).2).1 := ⟨_, rfl⟩
      have HF := Lib.hid hf
      have RH := Lib.hid (show ∀ w y, RAt w p y (hashesS s3 k).2.1 (hashesS s3 k).2.2 → Calls Tryz.prog 154 #[.pointer (some ⟨p, 0, none⟩)] w fun r w' => r = .returned (.agg (rowOf .u8 32 f)) ∧ (∃ y', RAt w' p y' (hashS (hashesS s3 k).2).2.1 (hashS (hashesS s3 k).2).2.2 ∧ y'.ownBlock = y.ownBlock) ∧ Only p w w' from fun w y h => by
        rw [HF.out]; exact rhash_own p y _ _ w h)
      clear hf
      refine anyT_takeY (i := 0) (v := .pointer (some ⟨q, 2, none⟩)) rfl (by kernel_rfl) (by kernel_rfl) (by kernel_rfl) (fun _ _ _ h => h) (by kernel_rfl) (Or.inl ⟨by rfl, by intro w; go_simp⟩) ?_
      try simp only [List.getElem_toArray, List.getElem_cons_succ, List.getElem_cons_zero, Act.put, List.setIfInBounds_toArray, List.set_cons_zero, List.set_cons_succ]
      refine anyT_takeY (i := 2) (v := .pointer (some ⟨p, 0, none⟩)) rfl (by kernel_rfl) (by kernel_rfl) (by kernel_rfl) (fun _ _ _ h => h) (by kernel_rfl) (Or.inl ⟨by rfl, by intro w; go_simp⟩) ?_
      try simp only [List.getElem_toArray, List.getElem_cons_succ, List.getElem_cons_zero, Act.put, List.setIfInBounds_toArray, List.set_cons_zero, List.set_cons_succ]
      refine anyT_take [5, 6, 7] (i := 1) (v := .slice ap (hashesS s3 k).1.length cp) rfl (by kernel_rfl) (by kernel_rfl) (by kernel_rfl) (fun _ _ _ h => h) (by kernel_rfl) (Or.inl ⟨by rfl, fun w' hS => by have c1 := (sig_cells w' _ _ _ _ hS).2.2.1; go_simp⟩) M.out.sig ?_
      try simp only [List.getElem_toArray, List.getElem_cons_succ, List.getElem_cons_zero, Act.put, List.setIfInBounds_toArray, List.set_cons_zero, List.set_cons_succ]
      refine anyT_one (i := 3) (by kernel_rfl) rfl (fun K hK => ?_)
      rw [if_pos (by rfl)]
      try simp only [List.getElem_toArray, List.getElem_cons_succ, List.getElem_cons_zero]
      (go_simp; obtain ⟨y, hy, hn⟩ := M.out.rd; refine (RH.out _ y hy).mono ?_; rintro e w9 ⟨rfl, ⟨y2, hy2, ho2⟩, ho⟩; replace M := Lib.hid (M.out.hash hn (hashS_ne _) hy2 ho2 ho); clear hy hn hy2 ho2 ho)
      refine hK _ _ (fun _ => M.out.sig) ?_
      clear hK K
      try simp only [List.getElem_toArray, List.getElem_cons_succ, List.getElem_cons_zero, Act.put, List.setIfInBounds_toArray, List.set_cons_zero, List.set_cons_succ]
      refine anyT_one (i := 4) (by kernel_rfl) rfl (fun K hK => ?_)
      rw [if_pos (by rfl)]
      try simp only [List.getElem_toArray, List.getElem_cons_succ, List.getElem_cons_zero]
      (have hsz32 := rowOf_size .u8 32 f; go_simp; rw [build32s]; have HR := Lib.hid (RowAt.new w9 .u8 32 32 f); replace M := Lib.hid (M.out.call (below_alloc w9 (.cells (rowOf .u8 32 f) 32))); have HG9 := Lib.hid (below_alloc w9 (.cells (rowOf .u8 32 f) 32)); generalize w9.alloc (.cells (rowOf .u8 32 f) 32) = w10 at *)
      refine hK _ _ (fun _ => M.out.sig) ?_
      clear hK K
      try simp only [List.getElem_toArray, List.getElem_cons_succ, List.getElem_cons_zero, Act.put, List.setIfInBounds_toArray, List.set_cons_zero, List.set_cons_succ]
      refine anyT_one (i := 5) (by kernel_rfl) rfl (fun K hK => ?_)
      rw [if_pos (by rfl)]
      try simp only [List.getElem_toArray, List.getElem_cons_succ, List.getElem_cons_zero]
      (refine wp_append_hashes (.tmp 20) (.tmp 23) rfl rfl B _ (hashesS s3 k).1.length _ rfl M.out.path _ [f] rfl (one_hash HR.out) (by rw [hashesS_length]; show (k + 1) * 32 ≤ _; omega) M.out.size ?_; intro v' w11 ho hg; obtain ⟨hsig, hm⟩ := M.out.more hg ho; obtain ⟨av', cv', rfl⟩ := flat_wide ho; have M2 := Lib.hid hm; have SG := Lib.hid hsig; clear ho hg hm hsig)
      refine hK _ _ (not_mem rfl) ?_
      clear hK K
      try simp only [List.getElem_toArray, List.getElem_cons_succ, List.getElem_cons_zero, Act.put, List.setIfInBounds_toArray, List.set_cons_zero, List.set_cons_succ]
      refine anyT_takeY (i := 6) (v := .pointer (some ⟨q, 2, none⟩)) rfl (by kernel_rfl) (by kernel_rfl) (by kernel_rfl) (fun _ _ _ h => h) (by kernel_rfl) (Or.inl ⟨by rfl, by intro w; go_simp⟩) ?_
      try simp only [List.getElem_toArray, List.getElem_cons_succ, List.getElem_cons_zero, Act.put, List.setIfInBounds_toArray, List.set_cons_zero, List.set_cons_succ]
      refine anyT_one (i := 7) (by kernel_rfl) rfl (fun K hK => ?_)
      rw [if_pos (by rfl)]
      try simp only [List.getElem_toArray, List.getElem_cons_succ, List.getElem_cons_zero]
      (obtain ⟨-, -, cc2, ff⟩ := sig_cells _ _ _ _ _ SG.out; have ff2 := ff 2; go_simp; clear cc2 ff ff2)
      refine hK _ _ (not_mem rfl) ?_
      clear hK K
      try simp only [List.getElem_toArray, List.getElem_cons_succ, List.getElem_cons_zero, Act.put, List.setIfInBounds_toArray, List.set_cons_zero, List.set_cons_succ]
      refine anyT_done (by kernel_rfl) ?_ _
      clear HR HG9 SG RH M
      generalize w11.setCell ⟨q, 2, none⟩ _ = w12 at *
      go_wp2_with (fail)
      go_roundw
      case rel => exact ⟨k + 1, by omega, by go_num, Lib.hid ⟨_, by have h := M2.out; rw [HF.out] at h; exact h⟩⟩
      case measure => simp [intOf]; omega
    · obtain rfl : k = c := by omega
      have hkI : ¬ (k : Int) < (k : Int) := by omega
      obtain ⟨y, hy, -⟩ := M.out.rd
      have HRD := Lib.hid (show RS wr p (hashesS s3 k).2 from ⟨y, hy⟩)
      clear hy
      obtain ⟨ap, cp, hvp⟩ := flat_wide M.out.path
      have HVW := Lib.hid (show (sgC a vo vp).all (·.oneCell') = true by rw [hvp, ← hvo]; exact sg_one _ _ _ _ _ _ _)
      clear hvp
      have HVP := Lib.hid (show HashesIn wr vp (hashesS s3 k).1 from HashesIn.of_own M.out.path)
      have HSG := Lib.hid M.out.sig
      have HRS := Lib.hid M.out.res
      by_cases hd : doneE (hashesS s3 k).2 = none
      · have HDO := Lib.hid (show ∀ w, RS w p (hashesS s3 k).2 → Calls Tryz.prog 117 #[.pointer (some ⟨p, 0, none⟩)] w fun r w' => r = .returned .nilIface ∧ w' = w from fun w h => by have := rdone_any p _ w h; rw [hd] at this; exact this)
        have HDD := Lib.hid (show decS xs = (⟨a, on, (hashesS s3 k).1⟩, none) by rw [HD.out, if_pos hd])
        clear hd
        go_wp2_with (first
          | (go_at_call 117; (with_reducible refine (HDO.out _ HRD.out).mono ?_); rintro e w9 ⟨rfl, rfl⟩)
          | (refine wpList_load_row rfl 198 (.tmp 5) rfl q rfl 198 _ (0, 0) _ HSG.out Tryz.underlying198 rfl (by kernel_rfl) ?_)
          | (refine wpList_store_row rfl 198 (.tmp 2) (.tmp 32) rfl w.heap.size (sgC a vo vp) rfl rfl 198 _ HRS.out (by kernel_rfl) (by rfl) HVW.out ?_))
        refine bodyPost_ret (results_cell_tmp_row rfl _ _ w.heap.size 198 (sgC a vo vp) (0, 0) _ rfl (setRow_heap _ _ _ _ _ _ HRS.out) Tryz.underlying198 rfl (by kernel_rfl)) rfl ?_
        rw [HDD.out]
        have HO := Only.setRow w9 w.heap.size (sgC a vo vp)
        refine ⟨vo, vp, rfl, M.out.oin.only0 HO fun hn k hk => ?_, ?_, below_setRow M.out.below (by omega) _⟩
        · have h1 := (M.out.oown hn k hk).1; have h2 := M.out.hp; have h3 := M.out.hq; omega
        · exact HashesIn.of_own (M.out.path.kept HO.grown (.inr fun e => by have h1 := (M.out.path.lt _ e).1; have h2 := M.out.hp; have h3 := M.out.hq; have h4 := M.out.hB; omega))
      · have hde : ∃ x, doneE (hashesS s3 k).2 = some x := by cases h : doneE (hashesS s3 k).2 with
          | none => exact absurd h hd
          | some x => exact ⟨x, rfl⟩
        obtain ⟨x, hx⟩ := hde
        have HDO := Lib.hid (show ∀ w, RS w p (hashesS s3 k).2 → Calls Tryz.prog 117 #[.pointer (some ⟨p, 0, none⟩)] w fun r w' => r = .returned (.iface 103 (.int .i64 (x : Int))) ∧ w' = w from fun w h => by have := rdone_any p _ w h; rw [hx] at this; exact this)
        have HDD := Lib.hid (show decS xs = (zSg, some 3) by rw [HD.out, if_neg hd])
        clear hd hx
        go_wp2_with (first
          | (go_at_call 117; (with_reducible refine (HDO.out _ HRD.out).mono ?_); rintro e w9 ⟨rfl, rfl⟩)
          | (refine wpList_store_row rfl 198 (.tmp 2) (.tmp 30) rfl w.heap.size (sgC 0 (.slice none 0 0) (.slice none 0 0)) rfl rfl 198 _ HRS.out (by kernel_rfl) (by rfl) (sgz_one 0) ?_))
        refine bodyPost_ret (results_cell_tmp_row rfl _ _ w.heap.size 198 (sgC 0 (.slice none 0 0) (.slice none 0 0)) (0, 0) _ rfl (setRow_heap _ _ _ _ _ _ HRS.out) Tryz.underlying198 rfl (by kernel_rfl)) rfl ?_
        rw [HDD.out]
        exact ⟨_, _, rfl, ⟨_, _, rfl, Nat.le_refl _, by unfold maxLen; decide, .inl rfl⟩, ⟨_, _, rfl, Nat.le_refl _, by unfold maxLen; decide, .inl rfl⟩, below_setRow M.out.below (by omega) _⟩
theorem sg_all {w w2 : World} {vo vp : Value} {on : List Int} {ps : List (Nat → Int)} (lf : Nat) (ho : BytesIn w vo on) (hp : HashesIn w2 vp ps) : (sgC lf vo vp).all (·.oneCell') = true := by
  obtain ⟨a, c, rfl, -⟩ := ho
  obtain ⟨b, d, rfl, -⟩ := hp
  exact sg_one _ _ _ _ _ _ _
end Go.Proofs.YtjnpcmfpiejmjaaGreatDoor
namespace Go.Proofs.YtjnpcmfpiejmjaaGreatDoor
set_option linter.unusedVariables false
set_option linter.unusedSimpArgs false
open Go.RowKit
set_option maxRecDepth 100000
set_option maxHeartbeats 1000000 in
theorem rleaf_any (v : Value) (xs : List Int) (w : World) (hx : BytesIn w v xs) (hl : xs.length + 81 ≤ 140737488355328) :
    Calls Tryz.prog 65 #[v] w fun e w' => e = .returned (.agg (rowOf .u8 32 (sumF (0 :: xs)))) ∧ Below w.heap.size w w' := by
  have HL := Lib.hid hl
  have HB0 := Lib.hid ((below_alloc w (.cells (rowOf .u8 32 (fun _ => 0)) 32)).trans ((below_alloc _ (.cells #[.int .u8 0] 5)).mono (by simp)))
  have HX := Lib.hid (hx.below HB0.out)
  have HR := Lib.hid ((RowAt.new w .u8 32 32 (fun _ => 0)).alloc (.cells #[.int .u8 0] 5))
  have HO := Lib.hid (show ((w.alloc (.cells (rowOf .u8 32 (fun _ => 0)) 32)).alloc (.cells #[.int .u8 0] 5)).ownsRow (w.heap.size + 1) 5 1 (.slice (some ⟨w.heap.size + 1, 0, none⟩) 1 1) 1 [.int .u8 0] by
    have h := World.ownsRow_lit (w := w.alloc (.cells (rowOf .u8 32 (fun _ => 0)) 32)) (base := w.heap.size + 1) (e := 5) (size := 1) #[.int .u8 0] 1 (by simp) (by simp [maxLen]) rfl
    rw [shSize_alloc] at h
    exact h)
  clear hx hl
  go_enter Tryz.func65, Tryz.ntmps65
  go_upto_region 1 with (fail)
  rw [zeros32]
  go_wp2_with (first
    | (at_builtin; refine wpList_append_bytes rfl (.tmp 3) (.tmp 4) rfl rfl (w.heap.size + 1) _ 1 [.int .u8 0] rfl HO.out v xs rfl HX.out (by have := HL.out; omega) (by simp) ?_; intro v' w1 ho hg _; have HX1 := Lib.hid (owns_in (xs := 0 :: xs) (by have h := ho; rw [Nat.add_comm 1 xs.length] at h; exact h) (by have := HL.out; unfold maxLen; simp; omega)); have HB1 := Lib.hid (HB0.out.grown hg HB0.out.size (fun k hk => by have := (HO.out.lt k hk).1; omega)); have HR1 := Lib.hid (show RowAt w1 w.heap.size .u8 32 32 (fun _ => 0) from (hg.block _ HR.out.lt (fun e => by have := (HO.out.lt _ e.symm).1; omega)).trans HR.out); clear ho hg)
    | (go_at_call 90; (with_reducible refine (rsum_any _ _ _ HX1.out (by have := HL.out; simp; omega)).mono ?_); rintro e w2 ⟨rfl, hb⟩; replace HR1 := Lib.hid (HR1.out.below hb HR1.out.lt); replace HB1 := Lib.hid (HB1.out.trans (hb.mono HB1.out.size)); clear hb)
    | (refine wpList_store_row rfl 32 (.tmp 2) (.tmp 6) rfl w.heap.size _ rfl rfl 32 _ HR1.out (by rw [rowOf_size]; kernel_rfl) (by rw [rowOf_size, rowOf_size]) (rowOf_one _ _ _) ?_))
  refine bodyPost_ret (results_cell_row rfl _ _ w.heap.size 32 (rowOf .u8 32 (sumF (0 :: xs))) (0, 0) _ rfl (setRow_heap _ _ _ _ _ _ HR1.out) Tryz.underlying32 rfl (by rw [rowOf_size]; kernel_rfl)) rfl ?_
  exact ⟨rfl, below_setRow HB1.out (Nat.le_refl _) _⟩
end Go.Proofs.YtjnpcmfpiejmjaaGreatDoor
namespace Go.Proofs.YtjnpcmfpiejmjaaGreatDoor
set_option linter.unusedVariables false
set_option linter.unusedSimpArgs false
open Go.RowKit
set_option maxRecDepth 100000
/-- the first groups -/
def gtake (n k : Nat) : List Int := (List.range k).map fun i => ((gby n i : Nat) : Int)
theorem gtake_succ (n k : Nat) : gtake n (k + 1) = gtake n k ++ [((gby n k : Nat) : Int)] := by simp [gtake, List.range_succ]
theorem gtake_length (n k : Nat) : (gtake n k).length = k := by simp [gtake]
/-- a call of the reference that answers bs with ys behind it, in an array of its own -/
def RefPost (bs ys : List Int) (w : World) (e : Ending) (w' : World) : Prop :=
  ∃ v', e = .returned v' ∧ w'.ownsRow w.heap.size 5 1 v' (bs ++ ys).length (byteVals (bs ++ ys)) ∧ Below w.heap.size w w'
theorem one_alloc (w : World) (x : Int) : BytesIn (w.alloc (.cells #[.int .u8 x] 5)) (.slice (some ⟨w.heap.size, 0, none⟩) 1 1) [x] := one_in w x
set_option maxHeartbeats 1000000 in
theorem dUint_any (b : Value) (bs : List Int) (n : Nat) (w : World) (hb : BytesIn w b bs) (hn : n < 18446744073709551616) (hl : bs.length + 10 ≤ 140737488355328) :
    Calls Tryz.prog 70 #[b, .int .u64 (n : Int)] w (RefPost bs (varint n) w) := by
  have HY := Lib.hid hb
  have HL := Lib.hid hl
  have HN := Lib.hid hn
  have HG := Lib.hid (glen_le hn)
  obtain ⟨B, hB⟩ : ∃ B, B = w.heap.size := ⟨_, rfl⟩
  unfold RefPost
  rw [← hB]
  have HO0 := Lib.hid (World.ownsRow_nil w B 5 1)
  replace hB := Lib.hid hB
  clear hb hl hn
  go_enter Tryz.func70, Tryz.ntmps70
  go_wp2_with (at_builtin; refine wpList_append_bytes rfl (.tmp 6) (.tmp 7) rfl rfl B _ 0 [] rfl HO0.out b bs rfl HY.out (by have := HL.out; omega) (by rw [hB.out]; exact Nat.le_refl _) ?_; intro v' w1 ho hg _; rw [Nat.zero_add, List.nil_append] at ho; have HO := Lib.hid ho; have HA := Lib.hid (((Below.refl B w).grown hg (by rw [hB.out]; exact Nat.le_refl _) (fun k hk => by cases hk))); clear ho hg)
  go_loopw [1, 5] (fun x v wr => ∃ k : Nat, k < glen n ∧ x = .int .u64 ((n / 128 ^ k : Nat) : Int) ∧ Hid (Below B w wr ∧ wr.ownsRow B 5 1 v (bs.length + k) (byteVals (bs ++ gtake n k)))) (fun x _ _ => (intOf x).toNat)
  case atStart => exact ⟨0, glen_pos n, by simp, HA.out, by simpa [gtake] using HO.out⟩
  case round =>
    clear HA HO HO0
    obtain ⟨k, hk, rfl, H⟩ := hrel
    have HO := Lib.hid H.out.2
    have HA := Lib.hid H.out.1
    clear H
    have hk10 := HG.out
    obtain ⟨m, hm⟩ : ∃ m, m = n / 128 ^ k := ⟨_, rfl⟩
    have hmn : m < 18446744073709551616 := by have := HN.out; have := Nat.div_le_self n (128 ^ k); omega
    have hiff := glen_iff hk
    rw [← hm] at hiff ⊢
    by_cases h : 128 ≤ m
    · have hk1 := hiff.1 h
      have hg1 : m % 128 + 128 = gby n k := by unfold gby; rw [if_pos hk1, ← hm]
      have hgi : (127 : Int) < (m : Int) := by omega
      have hmod : (m : Int).tmod 128 = ((m % 128 : Nat) : Int) := by rw [Int.tmod_eq_emod_of_nonneg (by omega)]; omega
      have hdiv : (m : Int).tdiv 128 = ((m / 128 : Nat) : Int) := by rw [Int.tdiv_eq_ediv_of_nonneg (by omega)]; omega
      have HM := Lib.hid hm
      have HG1 := Lib.hid hg1
      have HK1 := Lib.hid hk1
      clear hm hg1 hiff hk1
      go_wp2_with (at_builtin; refine wpList_append_bytes rfl (.tmp 11) (.tmp 16) rfl rfl B _ (bs.length + k) _ rfl (HO.out.alloc _) _ [(m : Int) % 128 + 128] rfl (one_alloc wr _) (by have := HL.out; simp only [List.length_cons, List.length_nil]; have := HK1.out; omega) (by rw [hB.out, size_alloc]; have := HA.out.size; omega) ?_; intro v' w1 ho hg _; have HO1 := Lib.hid ho; have HA1 := Lib.hid (((HA.out.alloc (by rw [hB.out]; exact HA.out.size) _).grown hg (by rw [hB.out, size_alloc]; have := HA.out.size; omega) (fun k hk => (HO.out.lt k hk).1))); clear ho hg)
      go_roundw
      case rel =>
        refine ⟨k + 1, HK1.out, ?_, HA1.out, ?_⟩
        · rw [div_pow_step, ← HM.out]; rfl
        · have h1 := HO1.out
          rw [← byteVals_append, List.append_assoc, show (m : Int) % 128 + 128 = ((gby n k : Nat) : Int) by rw [← HG1.out]; omega, ← gtake_succ] at h1
          exact h1
      case measure => simp [intOf]; omega
    · have hk1 : k + 1 = glen n := by omega
      have hg1 : m = gby n k := by rw [(gby_last hk1).1]; exact hm
      have hgi : ¬ (127 : Int) < (m : Int) := by omega
      have HG1 := Lib.hid hg1
      have HK1 := Lib.hid hk1
      clear hm hg1 hiff hk1
      go_wp2_with (at_builtin; refine wpList_append_bytes rfl (.tmp 20) (.tmp 23) rfl rfl B _ (bs.length + k) _ rfl (HO.out.alloc _) _ [(m : Int)] rfl (one_alloc wr _) (by have := HL.out; simp only [List.length_cons, List.length_nil]; have := HK1.out; omega) (by rw [hB.out, size_alloc]; have := HA.out.size; omega) ?_; intro v' w1 ho hg _; have HO1 := Lib.hid ho; have HA1 := Lib.hid (((HA.out.alloc (by rw [hB.out]; exact HA.out.size) _).grown hg (by rw [hB.out, size_alloc]; have := HA.out.size; omega) (fun k hk => (HO.out.lt k hk).1))); clear ho hg)
      go_ret
      refine ⟨_, rfl, ?_, HA1.out⟩
      have h1 := HO1.out
      rw [← byteVals_append, List.append_assoc, HG1.out, ← gtake_succ, HK1.out] at h1
      rw [varint_length, ← HK1.out]
      exact h1
theorem wp_append_bytes {w : World} {o : Oper} {a : Act} {K : Act → World → Prop} {Q : Exit → Act → World → Prop} (s x : Operand)
    (ho : o.op = .call { callee := .builtin .append, args := #[s, x], argTypes := #[23, 23] }) (hty : o.type = 23)
    (base : Nat) (v : Value) (n : Nat) (vs : List Value) (hs : a.eval s = v) (hown : w.ownsRow base 5 1 v n vs) (y : Value) (ys : List Int) (hx : a.eval x = y) (hy : BytesIn w y ys) (hl : n + ys.length ≤ 140737488355328) (hb : base ≤ w.heap.size)
    (h : ∀ v' w', w'.ownsRow base 5 1 v' (n + ys.length) (vs ++ byteVals ys) → w.grownBy w' v.ownBlock → OwnOf v v' w → K (a.put o.dst v') w') : o.wp Tryz.prog a w K Q := by
  obtain ⟨v', w', hr, h1, h2, h3⟩ := run_append_bytes w base v n vs hown y ys hy hl hb
  unfold Oper.wp execOp
  simp only [ho, hty, resolve, invoke, builtin, Sem.run_bind, Sem.run_pure, Result.andThen_ok, List.map_toArray, List.map_cons, List.map_nil, hs, hx, hr]
  exact h v' w' h1 h2 h3
set_option maxHeartbeats 1000000 in
theorem dHash_any (b : Value) (bs : List Int) (f : Nat → Int) (w : World) (hb : BytesIn w b bs) (hl : bs.length + 32 ≤ 140737488355328) :
    Calls Tryz.prog 84 #[b, .agg (rowOf .u8 32 f)] w (RefPost bs (rowL 32 f) w) := by
  have HY := Lib.hid (hb.below (below_alloc w (.cells (rowOf .u8 32 f) 32)))
  have HR := RowAt.new w .u8 32 32 f
  have HA := Lib.hid (below_alloc w (.cells (rowOf .u8 32 f) 32))
  have HL := Lib.hid hl
  have HO0 := Lib.hid (World.ownsRow_nil (w.alloc (.cells (rowOf .u8 32 f) 32)) w.heap.size 5 1)
  replace HR := Lib.hid HR
  clear hb hl
  unfold RefPost
  go_enter Tryz.func84, Tryz.ntmps84
  go_upto_region 2 with (fail)
  generalize w.alloc (.cells (rowOf .u8 32 f) 32) = w1 at *
  obtain ⟨w2, hw2⟩ : ∃ w2, w2 = w1.drew := ⟨_, rfl⟩
  replace HY := Lib.hid (show BytesIn w2 b bs by rw [hw2]; exact HY.out)
  replace HR := Lib.hid (show RowAt w2 w.heap.size .u8 32 32 f by rw [hw2]; exact HR.out)
  replace HA := Lib.hid (show Below w.heap.size w w2 by rw [hw2]; exact HA.out.drew)
  replace HO0 := Lib.hid (show w2.ownsRow w.heap.size 5 1 (.slice none 0 0) 0 [] by rw [hw2]; exact HO0.out)
  refine wp_region_any (by kernel_rfl) ?_
  change wpAny _ _ _ _ _ _ _ w1.drew
  rw [← hw2]
  clear hw2
  refine wpAny_take (i := 0) (v := .slice none 0 0) rfl (by kernel_rfl) (by kernel_rfl) (by kernel_rfl) (fun _ _ _ h => h) (Or.inl ⟨by rfl, by intro w; go_simp⟩) ?_
  try simp only [List.getElem_toArray, List.getElem_cons_zero, Act.put, List.setIfInBounds_toArray, List.set_cons_zero, List.set_cons_succ]
  refine wpAny_take (i := 1) (v := b) rfl (by kernel_rfl) (by kernel_rfl) (by kernel_rfl) (fun _ _ _ h => h) (Or.inl ⟨by rfl, by intro w; go_simp⟩) ?_
  try simp only [List.getElem_toArray, List.getElem_cons_succ, List.getElem_cons_zero, Act.put, List.setIfInBounds_toArray, List.set_cons_zero, List.set_cons_succ]
  refine wpAny_take (i := 3) (v := .slice (some ⟨w.heap.size, 0, none⟩) 32 32) rfl (by kernel_rfl) (by kernel_rfl) (by kernel_rfl) (fun _ _ _ h => h) (Or.inl ⟨by rfl, by intro w; go_simp⟩) ?_
  try simp only [List.getElem_toArray, List.getElem_cons_succ, List.getElem_cons_zero, Act.put, List.setIfInBounds_toArray, List.set_cons_zero, List.set_cons_succ]
  refine wpAny_ready (rs := [2]) (by kernel_rfl) (by simp) ?_; refine AllReady.cons rfl (fun K hK => ?_) AllReady.nil; rw [if_pos (by rfl)]
  try simp only [List.getElem_toArray, List.getElem_cons_succ, List.getElem_cons_zero]
  refine wp_append_bytes (.tmp 6) (.tmp 7) rfl rfl w.heap.size _ 0 [] rfl HO0.out b bs rfl HY.out (by have := HL.out; omega) HA.out.size ?_
  intro v3 w3 ho hg hof
  rw [Nat.zero_add, List.nil_append] at ho
  have HA3 := Lib.hid (HA.out.grown hg HA.out.size (fun k hk => by cases hk))
  have HR3 := Lib.hid (show RowAt w3 w.heap.size .u8 32 32 f from (hg.block _ HR.out.lt (by intro h; cases h)).trans HR.out)
  replace ho := Lib.hid ho
  clear hg hof
  refine hK _ _ ?_
  clear hK K
  try simp only [Act.put, List.setIfInBounds_toArray, List.set_cons_zero, List.set_cons_succ]
  refine wpAny_ready (rs := [4]) (by kernel_rfl) (by simp) ?_; refine AllReady.cons rfl (fun K hK => ?_) AllReady.nil; rw [if_pos (by rfl)]
  try simp only [List.getElem_toArray, List.getElem_cons_succ, List.getElem_cons_zero]
  refine wp_append_bytes (.tmp 8) (.tmp 9) rfl rfl w.heap.size _ _ _ rfl ho.out _ (rowL 32 f) rfl (row_in HR3.out (Nat.le_refl _) (Nat.le_refl _) (by simp [maxLen])) (by have := HL.out; simp only [rowL, List.length_map, List.length_range]; omega) HA3.out.size ?_
  intro v4 w4 ho4 hg hof
  have HA4 := Lib.hid (HA3.out.grown hg HA3.out.size (fun k hk => (ho.out.lt k hk).1))
  replace ho4 := Lib.hid ho4
  clear hg hof
  refine hK _ _ ?_
  clear hK K
  try simp only [Act.put, List.setIfInBounds_toArray, List.set_cons_zero, List.set_cons_succ]
  refine wpAny_ready (rs := [5]) (by kernel_rfl) (by simp) ?_; refine AllReady.cons rfl (fun K hK => ?_) AllReady.nil; rw [if_pos (by rfl)]
  try simp only [List.getElem_toArray, List.getElem_cons_succ, List.getElem_cons_zero]
  go_simp
  refine hK _ _ ?_
  clear hK K
  try simp only [List.getElem_toArray, List.getElem_cons_succ, List.getElem_cons_zero, Act.put, List.setIfInBounds_toArray, List.set_cons_zero, List.set_cons_succ]
  refine wpAny_done (by kernel_rfl) ?_ _
  go_wp2_with (fail)
  go_ret
  refine ⟨_, rfl, ?_, HA4.out⟩
  have h1 := ho4.out
  rw [← byteVals_append] at h1
  simpa using h1
#print axioms dHash_any
end Go.Proofs.YtjnpcmfpiejmjaaGreatDoor

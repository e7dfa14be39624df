/- Part 27 of the proof. -/
import Derived.Test.YtabflppnecemkaaGreatDoorPb9
import Derived.Test.YtabflppnecemkaaGreatDoorPb21
import Derived.Test.YtabflppnecemkaaGreatDoorPb26
namespace Go.Proofs.YtabflppnecemkaaGreatDoor
set_option linter.unusedVariables false
set_option linter.unusedSimpArgs false
open Go.RowKit
set_option maxRecDepth 100000
set_option linter.unusedSimpArgs false
set_option linter.unusedVariables false
theorem OwnP.only {w w' : World} {B g : Nat} {v : Value} {ps : List PvP} (h : OwnP w B v ps) (ho : Only g w w') {cs0 : Array Value} (hg : w.heap[g]? = some (.cells cs0 109 (0, 0))) : OwnP w' B v ps :=
  h.stay fun k cs ty hk hty => ho.block k (Array.getElem?_eq_some_iff.1 hk).1 fun e => by
    subst e
    rw [hg] at hk
    injection hk with hk
    injection hk with _ hk _
    subst hk
    rcases hty with h | h <;> exact absurd h (by decide)
theorem decE_two (xs : List Int) : decE xs = none ∨ decE xs = some 3 := by
  unfold decE
  split
  · exact .inl rfl
  · exact .inr rfl
def sdE (m : Int) (s : RSt) : Option Nat := if sdOk m s then none else some 3
def sdQ (m : Int) (s : RSt) : List PvP := if sdOk m s then sdL m s else []
theorem sdE_true {m : Int} {s : RSt} (h : sdOk m s = true) : sdE m s = none ∧ sdQ m s = sdL m s := by unfold sdE sdQ; rw [h]; exact ⟨rfl, rfl⟩
theorem sdE_false {m : Int} {s : RSt} (h : sdOk m s = false) : sdE m s = some 3 ∧ sdQ m s = [] := by unfold sdE sdQ; rw [h]; exact ⟨rfl, rfl⟩
def RsPost (m : Int) (s : RSt) (g : Nat) (w : World) (e : Ending) (w' : World) : Prop :=
  ∃ v, e = .returned (.tuple #[v, errV (sdE m s)]) ∧ OwnP w' w.heap.size v (sdQ m s) ∧ (sdE m s = none → RS w' g (sdT m s)) ∧ Only g w w'
def SrRel (w : World) (g : Nat) (m : Int) (s : RSt) (k : Nat) (v : Value) (wr : World) : Prop :=
  Only g w wr ∧ ((k = 0 ∧ v = .slice none 0 0 ∧ RS wr g (sdC s)) ∨ (k = 1 ∧ decE (sdB m s).1 = none ∧ OwnP wr w.heap.size v [decP (sdB m s).1] ∧ RS wr g (sdB m s).2))
theorem rs_below {w w' : World} {g : Nat} {s : RSt} (h : RS w g s) (hb : Below w.heap.size w w') : RS w' g s := by
  obtain ⟨y, hy⟩ := h
  exact ⟨y, hy.below hb⟩
set_option maxHeartbeats 4000000 in
theorem rside_any (m : Int) (g : Nat) (s : RSt) (w : World) (h : RS w g s) (hok : bytesOk s.1) (hm : (s.1.length : Int) ≤ m) (hl : s.1.length ≤ 140737488351232) :
    Calls Tryz.prog 31 #[.pointer (some ⟨g, 0, none⟩)] w (RsPost m s g w) := by
  have HCN := Lib.hid (show Calls Tryz.prog 20 #[.pointer (some ⟨g, 0, none⟩), .int .i64 1] w fun r w' => r = .returned (.int .i64 (sdN s : Int)) ∧ RS w' g (sdC s) ∧ Only g w w' from rcount_any g s 1 (by omega) w h)
  have hCl : (sdC s).1.length ≤ s.1.length := countS_len s 1
  have HW := Lib.hid (sd_wide s (sdC s).1.length m (Int.le_refl _) (by omega))
  have HLE := Lib.hid (show ((sdC s).1.length : Int) ≤ 9223372036854775807 from by omega)
  obtain ⟨n, hn⟩ : ∃ n, n = sdN s := ⟨_, rfl⟩
  have hn1 : n ≤ 1 := by rw [hn]; exact sdN_le s
  have HNN := Lib.hid hn
  rw [← hn] at HCN
  clear h hok hm hl hCl hn
  unfold RsPost
  go_enter Tryz.func31, Tryz.ntmps31
  go_upto_region 3 with (go_at_call 20; (with_reducible refine HCN.out.mono ?_); rintro e w1 ⟨rfl, hr, ho⟩; have HR := Lib.hid hr; have HO := Lib.hid ho; clear hr ho)
  have HM0 := Lib.hid (show SrRel w g m s 0 (.slice none 0 0) w1 from ⟨HO.out, .inl ⟨rfl, rfl, HR.out⟩⟩)
  clear HR HO HCN
  go_wp2_with (fail)
  go_loopw [4, 9] (fun v x wr => ∃ (k : Nat) (z : Value), k ≤ n ∧ z = v ∧ x = .int .i64 (k : Int) ∧ Hid (SrRel w g m s k z wr)) (fun _ x _ => n - (intOf x).toNat)
  case atStart => exact ⟨0, _, Nat.zero_le _, rfl, rfl, HM0⟩
  case round =>
    clear HM0
    obtain ⟨k, z, hkn, rfl, rfl, HM⟩ := hrel
    by_cases hlt : k < n
    · have hltI : (k : Int) < (n : Int) := by omega
      obtain ⟨ho, hc⟩ := HM.out
      obtain ⟨hk0, rfl, hr⟩ : k = 0 ∧ _ := hc.resolve_right (fun h => by omega)
      have HK0 := Lib.hid hk0
      have HN1 := Lib.hid (show n = 1 by omega)
      have HO := Lib.hid ho
      have HR := Lib.hid hr
      clear HM hc hr ho hk0
      obtain ⟨y, hy⟩ := HR.out
      have HLF := Lib.hid (left_any g y _ _ wr hy)
      have HBY := Lib.hid (rbytes_any g (sdC s) (sdC s).1.length wr HR.out (by omega) HLE.out)
      have hbl := partS_len1 (sdC s) (sdC s).1.length
      have HBL := Lib.hid (Nat.le_trans hbl hy.le)
      have HBO := Lib.hid (partS_ok1 ((sdC s).1.length : Int) hy.ok)
      obtain ⟨L, hL⟩ : ∃ L, L = (sdC s).1.length := ⟨_, rfl⟩
      rw [← hL] at HLF HBY HBL HBO HW
      obtain ⟨bs, hbs⟩ : ∃ b, b = partS (sdC s) (L : Int) := ⟨_, rfl⟩
      rw [← hbs] at HBY HBL HBO
      have HWB := Lib.hid (show bs.1 = (sdB m s).1 ∧ (decE bs.1 = none → bs = sdB m s) from by rw [hbs]; exact HW.out)
      clear hy hbl hL hbs HW HLE
      have HDE := Lib.hid (fun v w h => pdecode_any v bs.1 w h HBO.out HBL.out)
      obtain ⟨P, hP⟩ : ∃ P, P = decP bs.1 := ⟨_, rfl⟩
      have HPE := Lib.hid hP
      unfold PdPost at HDE
      rw [← hP] at HDE
      clear hP
      have HR' := HR
      rcases decE_two bs.1 with hE | hE
      · have HEE := Lib.hid hE
        rw [hE] at HDE
        simp only [errV] at HDE
        clear hE
        go_upto_region 7 with (first
          | (go_at_call 59; (with_reducible refine HLF.out.mono ?_); rintro e w2 ⟨rfl, rfl⟩)
          | (go_at_call 62; (with_reducible refine HBY.out.mono ?_); rintro e w3 ⟨bv, rfl, hb1, hb2, hb3, hb4⟩; have HB1 := Lib.hid hb1; have HB3 := Lib.hid hb3; have HB4 := Lib.hid hb4; clear hb1 hb2 hb3 hb4)
          | (go_at_call 4; (with_reducible refine (HDE.out bv w3 HB1.out).mono ?_); rintro e w4 ⟨sa, sc, rfl, hd1, hd2⟩; have HD1 := Lib.hid hd1; have HD2 := Lib.hid hd2; clear hd1 hd2)
          | (refine wpList_store_row rfl 31 (.tmp 5) (.tmp 17) rfl w4.heap.size (prC P (.slice sa P.steps.length sc)) rfl rfl 31 _ (heap_alloc_new _ _) (by kernel_rfl) rfl (prC_one _ _ _ _) ?_; rw [World.setRow_alloc_new]))
        have hba := below_alloc w4 (.cells (prC P (.slice sa P.steps.length sc)) 31)
        have H5 := Lib.hid (heap_alloc_new w4 (.cells (prC P (.slice sa P.steps.length sc)) 31))
        have HS5 := Lib.hid (HD1.out.alloc (.cells (prC P (.slice sa P.steps.length sc)) 31))
        have HR5 := Lib.hid (show RS (w4.alloc (.cells (prC P (.slice sa P.steps.length sc)) 31)) g bs.2 from rs_below (rs_below HB3.out HD2.out) hba)
        have HO5 := Lib.hid (show Only g w (w4.alloc (.cells (prC P (.slice sa P.steps.length sc)) 31)) from ((HO.out.trans HB4.out).trans (Only.of_below HD2.out)).trans (Only.of_below hba))
        obtain ⟨q, hq⟩ : ∃ q, q = w4.heap.size := ⟨_, rfl⟩
        rw [← hq] at H5 ⊢
        clear hba hq HR HR' HO HLF HBY HDE HB1 HB3 HB4 HD1 HD2
        generalize w4.alloc (.cells (prC P (.slice sa P.steps.length sc)) 31) = w5 at *
        go_wp2_with (first
          | (refine wpList_load_row rfl 31 (.tmp 5) rfl q rfl 31 _ (0, 0) _ H5.out Tryz.underlying31 rfl (by kernel_rfl) ?_)
          | (refine wpList_plain rfl fun K hK => wp_pr1 38 31 Tryz.underlying38 infoPrz (.tmp 23) rfl P.key P.val sa P.steps.length sc rfl (hK _ _ ?_); clear hK K; have hb6 := below_alloc w5 (.cells #[.string P.key, .string P.val, .slice sa P.steps.length sc] 31); have HN6 := Lib.hid (heap_alloc_new w5 (.cells #[.string P.key, .string P.val, .slice sa P.steps.length sc] 31)); have HS6 := Lib.hid (HS5.out.alloc (.cells #[.string P.key, .string P.val, .slice sa P.steps.length sc] 31)); have HR6 := Lib.hid (rs_below HR5.out hb6); have HO6 := Lib.hid (HO5.out.trans (Only.of_below hb6)); obtain ⟨q6, hq6⟩ : ∃ q, q = w5.heap.size := ⟨_, rfl⟩; rw [← hq6] at HN6 ⊢; clear hq6 hb6 HS5 HR5 HO5; generalize w5.alloc (.cells #[.string P.key, .string P.val, .slice sa P.steps.length sc] 31) = w6 at *)
          | (refine wpList_plain rfl fun K hK => wp_append_own (.tmp 22) (.tmp 24) rfl rfl w.heap.size (.slice none 0 0) [] rfl (OwnP.nil w6 w.heap.size) q6 P (.slice sa P.steps.length sc) ⟨_, _, _, rfl⟩ rfl HN6.out ⟨_, HS6.out⟩ (by simp) HO6.out.size fun v7 w7 ho7 hg7 => hK _ _ ?_; clear hK K; have hb7 := (Below.refl _ _).grown hg7 (Nat.le_refl _) (fun j hj => by cases hj); obtain ⟨a7, c7, rfl⟩ := ho7.slice; have HO7 := Lib.hid ho7; have HR7 := Lib.hid (rs_below HR6.out hb7); have HO8 := Lib.hid (HO6.out.trans (Only.of_below hb7)); clear ho7 hg7 hb7))
        go_roundw
        case rel =>
          refine ⟨k + 1, _, by omega, rfl, by go_num, Lib.hid ⟨HO8.out, .inr ⟨by rw [HK0.out], ?_, ?_, ?_⟩⟩⟩
          · rw [← HWB.out.1]; exact HEE.out
          · rw [← HWB.out.1, ← HPE.out]; exact HO7.out
          · rw [← HWB.out.2 HEE.out]; exact HR7.out
        case measure => simp [intOf]; omega
      · have HOK := Lib.hid (show sdOk m s = false from by unfold sdOk; rw [← HNN.out, HN1.out, ← HWB.out.1, hE]; rfl)
        rw [hE] at HDE
        simp only [errV] at HDE
        clear hE
        go_wp2_with (first
          | (go_at_call 59; (with_reducible refine HLF.out.mono ?_); rintro e w2 ⟨rfl, rfl⟩)
          | (go_at_call 62; (with_reducible refine HBY.out.mono ?_); rintro e w3 ⟨bv, rfl, hb1, hb2, hb3, hb4⟩; have HB1 := Lib.hid hb1; have HB4 := Lib.hid hb4; clear hb1 hb2 hb3 hb4)
          | (go_at_call 4; (with_reducible refine (HDE.out bv w3 HB1.out).mono ?_); rintro e w4 ⟨sa, sc, rfl, hd1, hd2⟩; have HD2 := Lib.hid hd2; clear hd1 hd2)
          | (refine wpList_store_row rfl 31 (.tmp 5) (.tmp 17) rfl w4.heap.size (prC P (.slice sa P.steps.length sc)) rfl rfl 31 _ (heap_alloc_new _ _) (by kernel_rfl) rfl (prC_one _ _ _ _) ?_; rw [World.setRow_alloc_new]))
        go_ret2
        refine ⟨.slice none 0 0, by rw [(sdE_false HOK.out).1]; rfl, by rw [(sdE_false HOK.out).2]; exact OwnP.nil _ _, (fun h => by rw [(sdE_false HOK.out).1] at h; cases h), ((HO.out.trans HB4.out).trans (Only.of_below HD2.out)).trans (Only.of_below (below_alloc w4 _))⟩
    · obtain rfl : k = n := by omega
      have HF := Lib.hid (show sdOk m s = true ∧ OwnP wr w.heap.size z (sdL m s) ∧ RS wr g (sdT m s) ∧ Only g w wr from by
        obtain ⟨ho, hc⟩ := HM.out
        have hN := HNN.out
        unfold sdOk sdL sdT
        rcases hc with ⟨h1, rfl, h3⟩ | ⟨h1, h2, h3, h4⟩
        · rw [← hN, h1]; exact ⟨rfl, OwnP.nil _ _, h3, ho⟩
        · rw [← hN, h1, h2]; exact ⟨rfl, h3, h4, ho⟩)
      clear HM
      go_wp2_with (fail)
      go_ret2
      exact ⟨z, by rw [(sdE_true HF.out.1).1]; rfl, by rw [(sdE_true HF.out.1).2]; exact HF.out.2.1, fun _ => HF.out.2.2.1, HF.out.2.2.2⟩
end Go.Proofs.YtabflppnecemkaaGreatDoor
namespace Go.Proofs.YtabflppnecemkaaGreatDoor
set_option linter.unusedVariables false
set_option linter.unusedSimpArgs false
open Go.RowKit
set_option maxRecDepth 100000
set_option linter.unusedSimpArgs false
set_option linter.unusedVariables false
theorem ab_zero_built : Tryz.prog.built 40 [] = some #[.slice none 0 0, .slice none 0 0] := by kernel_rfl
theorem ab_built (a b : Option Addr) (n c m d : Nat) : Tryz.prog.built 40 [(0, .slice a n c), (1, .slice b m d)] = some #[.slice a n c, .slice b m d] := by kernel_rfl
def DnPost (L R : List PvP) (E : Option Nat) (w : World) (e : Ending) (w' : World) : Prop :=
  ∃ la lc ra rc, e = .returned (.tuple #[.agg #[.slice la L.length lc, .slice ra R.length rc], errV E]) ∧ PrsIn w' (.slice la L.length lc) L ∧ PrsIn w' (.slice ra R.length rc) R ∧ Below w.heap.size w w'
theorem OwnP.ab {w : World} {B q : Nat} {v : Value} {ps : List PvP} {cs0 cs : Array Value} (h : OwnP w B v ps) (hq : w.heap[q]? = some (.cells cs0 40 (0, 0))) : OwnP (w.setRow q cs) B v ps :=
  h.stay fun j cs ty hj hty => setRow_other _ _ _ _ fun e => by
    subst e
    rw [hq] at hj
    injection hj with hj
    injection hj with _ hj _
    subst hj
    rcases hty with h | h <;> exact absurd h (by decide)
theorem RS.ok {w : World} {g : Nat} {s : RSt} (h : RS w g s) : bytesOk s.1 := by obtain ⟨y, hy⟩ := h; exact hy.ok
theorem RS.blk {w : World} {g : Nat} {s : RSt} (h : RS w g s) : ∃ cs, w.heap[g]? = some (.cells cs 109 (0, 0)) := by obtain ⟨y, hy⟩ := h; exact ⟨_, hy.at_⟩
set_option maxHeartbeats 4000000 in
theorem pdecnone_any (vb : Value) (xs : List Int) (w : World) (hy : BytesIn w vb xs) (hok : bytesOk xs) (hl : xs.length ≤ 140737488351232) :
    Calls Tryz.prog 6 #[vb] w (DnPost (dnL xs) (dnR xs) (dnE xs) w) := by
  have HC1 := Lib.hid (heap_alloc_new w (.cells #[.slice none 0 0, .slice none 0 0] 40))
  have HB1 := Lib.hid (below_alloc w (.cells #[.slice none 0 0, .slice none 0 0] 40))
  have HY := Lib.hid (hy.below HB1.out)
  have HOK := Lib.hid hok
  have HL := Lib.hid hl
  have hL1 : (dnS1 xs).1.length ≤ xs.length := sdT_len _ (xs, none)
  have HL1 := Lib.hid hL1
  clear hy hok hl hL1
  unfold DnPost
  go_enter Tryz.func6, Tryz.ntmps6
  go_upto_region 1 with (fail)
  generalize w.alloc (.cells #[.slice none 0 0, .slice none 0 0] 40) = w1 at *
  have hz1 : w.heap.size < w1.heap.size := bk_lt HC1.out
  go_upto_region 2 with (go_at_call 18; (with_reducible refine (read_any vb xs w1 HY.out HOK.out (by have := HL.out; omega)).mono ?_); rintro e w2 ⟨g, y, rfl, hg, hra, hb⟩; have HG := Lib.hid (show w.heap.size < g by omega); have HR := Lib.hid (show RS w2 g (xs, none) from ⟨y, hra⟩); have HC2 := Lib.hid ((hb.block _ hz1).trans HC1.out); have HB2 := Lib.hid (HB1.out.trans (hb.mono (Nat.le_of_lt hz1))); clear hg hra hb)
  clear hz1 HB1 HC1 HY
  have HS1 := Lib.hid (rside_any xs.length g (xs, none) w2 HR.out HOK.out (Int.le_refl _) (by have := HL.out; simpa using this))
  unfold RsPost at HS1
  cases h1 : sdOk (xs.length : Int) (xs, none) with
  | false =>
    have HP := Lib.hid (dn_bad1 h1)
    rw [(sdE_false h1).1, (sdE_false h1).2] at HS1
    simp only [errV] at HS1
    have hbz := ab_zero_built
    clear h1 HL1
    go_wp2_with (first
      | (go_at_call 31; (with_reducible refine HS1.out.mono ?_); rintro e w3 ⟨v, rfl, hv, -, ho⟩; obtain ⟨va, vc, rfl⟩ := hv.slice; have HC3 := Lib.hid ((ho.block _ (bk_lt HC2.out) (by have := HG.out; omega)).trans HC2.out); have HB3 := Lib.hid (HB2.out.trans (ho.below (Nat.le_of_lt HG.out) HB2.out.size)); clear hv ho)
      | (refine wpList_store_row rfl 40 (.tmp 2) (.tmp 17) rfl w.heap.size #[.slice none 0 0, .slice none 0 0] rfl rfl 40 _ HC3.out (by kernel_rfl) rfl (by simp [Value.oneCell']) ?_))
    refine bodyPost_ret (results_cell_tmp_row rfl _ _ w.heap.size 40 #[.slice none 0 0, .slice none 0 0] (0, 0) _ rfl (setRow_heap _ _ _ _ _ _ HC3.out) Tryz.underlying40 rfl (by kernel_rfl)) rfl ?_
    rw [HP.out.1, HP.out.2.1, HP.out.2.2]
    exact ⟨none, 0, none, 0, rfl, prs_nil8 _, prs_nil8 _, below_setRow HB3.out (Nat.le_refl _) _⟩
  | true =>
    have H1 := Lib.hid h1
    rw [(sdE_true h1).1, (sdE_true h1).2] at HS1
    simp only [errV] at HS1
    have HS1' := Lib.hid (show Calls Tryz.prog 31 #[.pointer (some ⟨g, 0, none⟩)] w2 fun e w' => ∃ v, e = .returned (.tuple #[v, .nilIface]) ∧ OwnP w' w2.heap.size v (sdL xs.length (xs, none)) ∧ RS w' g (dnS1 xs) ∧ Only g w2 w' from HS1.out.mono fun e w' ⟨v, h1, h2, h3, h4⟩ => ⟨v, h1, h2, h3 trivial, h4⟩)
    obtain ⟨L, hL⟩ : ∃ l, l = sdL xs.length (xs, none) := ⟨_, rfl⟩
    rw [← hL] at HS1'
    have HLL := Lib.hid hL
    clear h1 hL HS1
    go_upto_region 5 with (go_at_call 31; (with_reducible refine HS1'.out.mono ?_); rintro e w3 ⟨v, rfl, hv, hr, ho⟩; obtain ⟨va, vc, rfl⟩ := hv.slice; have HV := Lib.hid hv; have HR3 := Lib.hid hr; have HC3 := Lib.hid ((ho.block _ (bk_lt HC2.out) (by have := HG.out; omega)).trans HC2.out); have HB3 := Lib.hid (HB2.out.trans (ho.below (Nat.le_of_lt HG.out) HB2.out.size)); clear hv hr ho)
    clear HS1' HR HC2 HB2
    have HS2 := Lib.hid (rside_any xs.length g (dnS1 xs) w3 HR3.out HR3.out.ok (by have := HL1.out; omega) (by have := HL1.out; have := HL.out; omega))
    unfold RsPost at HS2
    cases h2 : sdOk (xs.length : Int) (dnS1 xs) with
    | false =>
      have HP := Lib.hid (dn_bad2 h2)
      rw [(sdE_false h2).1, (sdE_false h2).2] at HS2
      simp only [errV] at HS2
      have hbz := ab_zero_built
      clear h2 HL1
      go_wp2_with (first
        | (go_at_call 31; (with_reducible refine HS2.out.mono ?_); rintro e w4 ⟨v, rfl, hv, -, ho⟩; obtain ⟨ua, uc, rfl⟩ := hv.slice; have HC4 := Lib.hid ((ho.block _ (bk_lt HC3.out) (by have := HG.out; omega)).trans HC3.out); have HB4 := Lib.hid (HB3.out.trans (ho.below (Nat.le_of_lt HG.out) HB3.out.size)); clear hv ho)
        | (refine wpList_store_row rfl 40 (.tmp 2) (.tmp 26) rfl w.heap.size #[.slice none 0 0, .slice none 0 0] rfl rfl 40 _ HC4.out (by kernel_rfl) rfl (by simp [Value.oneCell']) ?_))
      refine bodyPost_ret (results_cell_tmp_row rfl _ _ w.heap.size 40 #[.slice none 0 0, .slice none 0 0] (0, 0) _ rfl (setRow_heap _ _ _ _ _ _ HC4.out) Tryz.underlying40 rfl (by kernel_rfl)) rfl ?_
      rw [HP.out.1, HP.out.2.1, HP.out.2.2]
      exact ⟨none, 0, none, 0, rfl, prs_nil8 _, prs_nil8 _, below_setRow HB4.out (Nat.le_refl _) _⟩
    | true =>
      have H2 := Lib.hid h2
      rw [(sdE_true h2).1, (sdE_true h2).2] at HS2
      simp only [errV] at HS2
      have HS2' := Lib.hid (show Calls Tryz.prog 31 #[.pointer (some ⟨g, 0, none⟩)] w3 fun e w' => ∃ v, e = .returned (.tuple #[v, .nilIface]) ∧ OwnP w' w3.heap.size v (sdL xs.length (dnS1 xs)) ∧ RS w' g (dnS2 xs) ∧ Only g w3 w' from HS2.out.mono fun e w' ⟨v, h1, h2, h3, h4⟩ => ⟨v, h1, h2, h3 trivial, h4⟩)
      obtain ⟨R, hR⟩ : ∃ l, l = sdL xs.length (dnS1 xs) := ⟨_, rfl⟩
      rw [← hR] at HS2'
      have HRR := Lib.hid hR
      clear h2 hR HS2
      go_upto_region 8 with (go_at_call 31; (with_reducible refine HS2'.out.mono ?_); rintro e w4 ⟨v, rfl, hv, hr, ho⟩; obtain ⟨ua, uc, rfl⟩ := hv.slice; have HU := Lib.hid hv; have HR4 := Lib.hid hr; have HV4 := Lib.hid (show OwnP w4 w2.heap.size (.slice va L.length vc) L from by obtain ⟨cs, hcs⟩ := HR3.out.blk; exact HV.out.only ho hcs); have HC4 := Lib.hid ((ho.block _ (bk_lt HC3.out) (by have := HG.out; omega)).trans HC3.out); have HB4 := Lib.hid (HB3.out.trans (ho.below (Nat.le_of_lt HG.out) HB3.out.size)); clear hv hr ho)
      clear HS2' HR3 HC3 HB3 HV
      have HE := Lib.hid (rdone_any g _ w4 HR4.out)
      cases hd : doneE (dnS2 xs) with
      | some x =>
        have HP := Lib.hid (dn_bad3 hd)
        rw [hd] at HE
        simp only [errV] at HE
        have hbz := ab_zero_built
        clear hd HL1
        go_wp2_with (first
          | (go_at_call 24; (with_reducible refine HE.out.mono ?_); rintro e w5 ⟨rfl, rfl⟩)
          | (refine wpList_store_row rfl 40 (.tmp 2) (.tmp 31) rfl w.heap.size #[.slice none 0 0, .slice none 0 0] rfl rfl 40 _ HC4.out (by kernel_rfl) rfl (by simp [Value.oneCell']) ?_))
        refine bodyPost_ret (results_cell_tmp_row rfl _ _ w.heap.size 40 #[.slice none 0 0, .slice none 0 0] (0, 0) _ rfl (setRow_heap _ _ _ _ _ _ HC4.out) Tryz.underlying40 rfl (by kernel_rfl)) rfl ?_
        rw [HP.out.1, HP.out.2.1, HP.out.2.2]
        exact ⟨none, 0, none, 0, rfl, prs_nil8 _, prs_nil8 _, below_setRow HB4.out (Nat.le_refl _) _⟩
      | none =>
        have HP := Lib.hid (dn_good H1.out H2.out hd)
        rw [hd] at HE
        simp only [errV] at HE
        have hbz := ab_built va ua L.length vc R.length uc
        clear hd HL1
        go_wp2_with (first
          | (go_at_call 24; (with_reducible refine HE.out.mono ?_); rintro e w5 ⟨rfl, rfl⟩)
          | (refine wpList_store_row rfl 40 (.tmp 2) (.tmp 35) rfl w.heap.size #[.slice va L.length vc, .slice ua R.length uc] rfl rfl 40 _ HC4.out (by kernel_rfl) rfl (by simp [Value.oneCell']) ?_))
        refine bodyPost_ret (results_cell_tmp_row rfl _ _ w.heap.size 40 #[.slice va L.length vc, .slice ua R.length uc] (0, 0) _ rfl (setRow_heap _ _ _ _ _ _ HC4.out) Tryz.underlying40 rfl (by kernel_rfl)) rfl ?_
        rw [HP.out.1, HP.out.2.1, HP.out.2.2, ← HLL.out, ← HRR.out]
        exact ⟨va, vc, ua, uc, rfl, (HV4.out.ab HC4.out).prs, (HU.out.ab HC4.out).prs, below_setRow HB4.out (Nat.le_refl _) _⟩
end Go.Proofs.YtabflppnecemkaaGreatDoor
namespace Go.Proofs.YtabflppnecemkaaGreatDoor
set_option linter.unusedVariables false
set_option linter.unusedSimpArgs false
open Go.RowKit
set_option maxRecDepth 100000
def dgt (xs : List Int) (i : Nat) : Nat := (xs.getD i 0).toNat % 128
/-- what the first i groups add up to -/
def accN (xs : List Int) : Nat → Nat
  | 0 => 0
  | i + 1 => accN xs i + dgt xs i * 128 ^ i
/-- what m groups from place j on add up to, the first the least -/
def hor (xs : List Int) : Nat → Nat → Nat
  | 0, _ => 0
  | m + 1, j => dgt xs j + 128 * hor xs m (j + 1)
theorem dgt_lt (xs : List Int) (i : Nat) : dgt xs i < 128 := Nat.mod_lt _ (by decide)
theorem accN_hor (xs : List Int) : ∀ m j, accN xs (j + m) = accN xs j + 128 ^ j * hor xs m j
  | 0, j => by simp [hor]
  | m + 1, j => by
    rw [show j + (m + 1) = (j + 1) + m by omega, accN_hor xs m (j + 1)]
    simp only [accN, hor, Nat.pow_succ, Nat.mul_add]
    rw [Nat.mul_comm (dgt xs j), Nat.mul_assoc, Nat.add_assoc]
theorem accN_lt (xs : List Int) : ∀ i, accN xs i < 128 ^ i
  | 0 => by simp [accN]
  | i + 1 => by
    have h1 := accN_lt xs i
    have h2 : dgt xs i * 128 ^ i ≤ 127 * 128 ^ i := Nat.mul_le_mul_right _ (by have := dgt_lt xs i; omega)
    simp only [accN, Nat.pow_succ]
    omega
theorem accF_accN (xs : List Int) : ∀ i, i ≤ 9 → accF xs i = accN xs i
  | 0, _ => rfl
  | i + 1, h => by
    have hp : (128 : Nat) ^ i ≤ 128 ^ 8 := Nat.pow_le_pow_right (by decide) (by omega)
    have h8 : (128 : Nat) ^ 8 = 72057594037927936 := by decide
    have h2 : dgt xs i * 128 ^ i ≤ 127 * 128 ^ i := Nat.mul_le_mul_right _ (by have := dgt_lt xs i; omega)
    show accF xs i + (dgt xs i * 128 ^ i) % 18446744073709551616 = accN xs i + dgt xs i * 128 ^ i
    rw [accF_accN xs i (by omega), Nat.mod_eq_of_lt (by omega)]
/-- a number of at most ten groups, the tenth of which is 0 or 1 -/
theorem acc_ok (xs : List Int) (i : Nat) (hi : i ≤ 9) (h : i = 9 → dgt xs i ≤ 1) : accF xs (i + 1) = accN xs (i + 1) ∧ accN xs (i + 1) < 18446744073709551616 := by
  have hl := accN_lt xs (i + 1)
  rcases Nat.lt_or_ge i 9 with h9 | h9
  · have hp : (128 : Nat) ^ (i + 1) ≤ 128 ^ 9 := Nat.pow_le_pow_right (by decide) (by omega)
    have e9 : (128 : Nat) ^ 9 = 9223372036854775808 := by decide
    exact ⟨accF_accN xs (i + 1) (by omega), by omega⟩
  · obtain rfl : i = 9 := by omega
    have h1 := h rfl
    have hn := accN_lt xs 9
    have e9 : (128 : Nat) ^ 9 = 9223372036854775808 := by decide
    have hd : dgt xs 9 * 128 ^ 9 ≤ 1 * 128 ^ 9 := Nat.mul_le_mul_right _ h1
    have e : accN xs (9 + 1) = accN xs 9 + dgt xs 9 * 128 ^ 9 := rfl
    refine ⟨?_, by omega⟩
    show accF xs 9 + (dgt xs 9 * 128 ^ 9) % 18446744073709551616 = accN xs (9 + 1)
    rw [accF_accN xs 9 (by omega), Nat.mod_eq_of_lt (by omega), e]
theorem hor_le (xs : List Int) (m j : Nat) : hor xs m j ≤ accN xs (j + m) := by
  rw [accN_hor]
  have : 1 ≤ (128 : Nat) ^ j := Nat.one_le_pow _ _ (by decide)
  have := Nat.mul_le_mul_right (hor xs m j) this
  omega
theorem hor_all (xs : List Int) (m : Nat) : hor xs m 0 = accN xs m := by
  have := accN_hor xs m 0
  simp [accN] at this
  exact this.symm
/-- an error's number once more: the first one stays -/
def firstE : Option Nat → Nat → Option Nat
  | none, x => some x
  | some y, _ => some y
end Go.Proofs.YtabflppnecemkaaGreatDoor

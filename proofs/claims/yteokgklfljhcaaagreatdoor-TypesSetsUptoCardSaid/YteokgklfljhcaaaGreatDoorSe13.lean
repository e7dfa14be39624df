/- Part 13 of the proof. -/
import Derived.Maps.OwnSet
import Derived.DeepKeys5
import Derived.Test.YteokgklfljhcaaaGreatDoorSe12
namespace Go.Proofs.YteokgklfljhcaaaGreatDoor
set_option linter.unusedVariables false
set_option linter.unusedSimpArgs false
open Go.RowKit
set_option maxRecDepth 100000
set_option linter.unusedSimpArgs false
set_option linter.unusedVariables false
theorem chkC_any (x : Va) (q : Nat) (nm : ByteArray) (w : World) (hc : w.cell? ⟨q, 0, none⟩ = some (.string nm)) : Calls Tryz.prog 72 #[.agg (vaC x), .pointer (some ⟨q, 0, none⟩)] w fun e w' => e = .returned (.bool (decide (x.name = nm))) ∧ Below w.heap.size w w' := by
  have hb := below_alloc w (.cells (vaC x) 54)
  have h1 := (va_cells (heap_alloc_new w (.cells (vaC x) 54))).1
  have h2 := (hb.cell (p := ⟨q, 0, none⟩) (World.block_lt_of_cell? w _ hc)).trans hc
  have hq := beqT x.name nm
  have HB := Lib.hid hb
  clear hc hb
  go_enter Tryz.func72, Tryz.ntmps72
  go_upto_region 1 with (fail)
  generalize w.alloc (.cells (vaC x) 54) = w1 at *
  go_wp2_with (fail)
  go_ret
  exact ⟨rfl, HB.out⟩
abbrev nmP (nm : ByteArray) (x : Va) : Bool := decide (x.name = nm)
def IxRel (w : World) (l : List Va) (nm : ByteArray) (k : Nat) (wr : World) : Prop := Below w.heap.size w wr ∧ (l.take k).any (nmP nm) = false
theorem any_snoc {l : List Va} {p : Va → Bool} {k : Nat} {x : Va} (h : l[k]? = some x) : (l.take (k + 1)).any p = ((l.take k).any p || p x) := by
  rw [List.take_add_one, h]; simp
theorem any_hit {l : List Va} {p : Va → Bool} {k : Nat} {x : Va} (h : l[k]? = some x) (hp : p x = true) : l.any p = true := by
  rw [List.any_eq_true]; exact ⟨x, List.mem_of_getElem? h, hp⟩
set_option maxHeartbeats 2000000 in
theorem idxf_any (l : List Va) (v : Value) (q : Nat) (nm : ByteArray) (w : World) (hv : VaIn w v l) (hc : w.cell? ⟨q, 0, none⟩ = some (.string nm)) (hl : l.length ≤ 1048576) :
    Calls Tryz.prog 126 #[v, .func (.func 72) #[] #[.pointer (some ⟨q, 0, none⟩)]] w fun e w' => ∃ i : Int, e = .returned (.int .i64 i) ∧ decide (0 ≤ i) = l.any (nmP nm) ∧ Below w.heap.size w w' := by
  obtain ⟨a, cap, rfl, -, -⟩ := hv.len
  have HV := Lib.hid hv
  have HC := Lib.hid hc
  have HQ := Lib.hid (World.block_lt_of_cell? w _ hc)
  obtain ⟨n, hn⟩ : ∃ n, n = l.length := ⟨_, rfl⟩
  have HN := Lib.hid hn
  have hn1 : n ≤ 1048576 := by omega
  rw [← hn] at HV ⊢
  clear hv hc hl hn
  go_enter Tryz.func126, Tryz.ntmps126
  go_upto_region 2 with (fail)
  have HR0 := Lib.hid (show IxRel w l nm 0 w from ⟨Below.refl _ _, by simp⟩)
  go_wp2_with (fail)
  go_loopw [8] (fun x wr => ∃ k : Nat, k ≤ n ∧ x = .int .i64 (k : Int) ∧ Hid (IxRel w l nm k wr)) (fun x _ => n - (intOf x).toNat)
  case atStart => exact ⟨0, Nat.zero_le _, rfl, HR0⟩
  case round =>
    clear HR0
    obtain ⟨k, hkn, rfl, HR⟩ := hrel
    by_cases hlt : k < n
    · have hltI : (k : Int) < (n : Int) := by omega
      obtain ⟨x, hx⟩ : ∃ x, l[k]? = some x := ⟨l[k]'(by have := HN.out; omega), List.getElem?_eq_getElem _⟩
      have hv := HV.out.below HR.out.1
      rw [HN.out] at hv
      obtain ⟨ab, ao, rfl, hab, hra⟩ := hv.at hx
      have HRA := Lib.hid hra
      have HCA := Lib.hid (chkC_any x q nm wr ((HR.out.1.cell (p := ⟨q, 0, none⟩) HQ.out).trans HC.out))
      have HX := Lib.hid hx
      clear hv hab hra hx
      cases hp : nmP nm x with
      | true =>
        have HP := Lib.hid hp
        rw [show decide (x.name = nm) = true from hp] at HCA
        clear hp
        go_wp2_with (first
          | (refine wpList_load_rowT (by rfl) 54 (.tmp 14) rfl ab (ao + k * 34) rfl (vaC x) _ HRA.out Tryz.underlying54 rfl (by rw [vaC_size]; kernel_rfl) ?_)
          | (go_at_call 72; (with_reducible refine HCA.out.mono ?_); rintro e w2 ⟨rfl, hb⟩; have HB2 := Lib.hid hb; clear hb))
        go_ret
        exact ⟨(k : Int), rfl, by rw [any_hit HX.out HP.out]; exact decide_eq_true (by omega), HR.out.1.trans (HB2.out.mono HR.out.1.size)⟩
      | false =>
        have HP := Lib.hid hp
        rw [show decide (x.name = nm) = false from hp] at HCA
        clear hp
        go_wp2_with (first
          | (refine wpList_load_rowT (by rfl) 54 (.tmp 14) rfl ab (ao + k * 34) rfl (vaC x) _ HRA.out Tryz.underlying54 rfl (by rw [vaC_size]; kernel_rfl) ?_)
          | (go_at_call 72; (with_reducible refine HCA.out.mono ?_); rintro e w2 ⟨rfl, hb⟩; have HB2 := Lib.hid hb; clear hb))
        go_roundw
        case rel => exact ⟨k + 1, by omega, by go_num, Lib.hid ⟨HR.out.1.trans (HB2.out.mono HR.out.1.size), by rw [any_snoc HX.out, HR.out.2, HP.out]; rfl⟩⟩
        case measure => simp [intOf]; omega
    · obtain rfl : k = n := by omega
      go_wp2_with (fail)
      go_ret
      exact ⟨-1, rfl, by have := HR.out.2; rw [HN.out, List.take_length] at this; rw [this]; rfl, HR.out.1⟩
theorem contf_any (l : List Va) (v : Value) (q : Nat) (nm : ByteArray) (w : World) (hv : VaIn w v l) (hc : w.cell? ⟨q, 0, none⟩ = some (.string nm)) (hl : l.length ≤ 1048576) :
    Calls Tryz.prog 74 #[v, .func (.func 72) #[] #[.pointer (some ⟨q, 0, none⟩)]] w fun e w' => e = .returned (.bool (l.any (nmP nm))) ∧ Below w.heap.size w w' := by
  have HI := Lib.hid (idxf_any l v q nm w hv hc hl)
  obtain ⟨a, cap, rfl, -, -⟩ := hv.len
  clear hv hc
  go_enter Tryz.func74, Tryz.ntmps74
  go_wp2_with (go_at_call 126; (with_reducible refine HI.out.mono ?_); rintro e w2 ⟨i, rfl, hi, hb⟩; have HB2 := Lib.hid hb; have HJ := Lib.hid hi; clear hb hi)
  go_ret
  exact ⟨by rw [← HJ.out]; rfl, HB2.out⟩
/-- powers together -/
def sumV : List Va → Int
  | [] => 0
  | x :: l => x.pow + sumV l
theorem sumV_append : ∀ a b : List Va, sumV (a ++ b) = sumV a + sumV b
  | [], b => by simp [sumV]
  | x :: a, b => by simp only [List.cons_append, sumV, sumV_append a b]; omega
theorem sumV_snoc {l : List Va} {k : Nat} {x : Va} (h : l[k]? = some x) : sumV (l.take (k + 1)) = sumV (l.take k) + x.pow := by
  rw [List.take_add_one, h, sumV_append]; simp [sumV]
def okAt (l : List Va) (i : Nat) (x : Va) : Bool := nmB x.name && (!((l.take i).any (nmP x.name)) && decide (1 ≤ x.pow ∧ x.pow ≤ 1099511627776 - sumV (l.take i)))
def okTo (l : List Va) (k : Nat) : Prop := ∀ i x, i < k → l[i]? = some x → okAt l i x = true
def ckB (l : List Va) : Bool := decide (1 ≤ l.length ∧ l.length ≤ 32) && (List.range l.length).all fun i => (l[i]?.map (okAt l i)).getD true
/-- CheckSet -/
def ckE (l : List Va) : Option Nat := if ckB l then none else some 30
theorem ck_len {l : List Va} (h : ¬ (1 ≤ l.length ∧ l.length ≤ 32)) : ckE l = some 30 := by
  unfold ckE ckB; rw [decide_eq_false h]; rfl
theorem ck_bad {l : List Va} {i : Nat} {x : Va} (h : l[i]? = some x) (hb : okAt l i x = false) : ckE l = some 30 := by
  have : (List.range l.length).all (fun i => (l[i]?.map (okAt l i)).getD true) = false := by
    rw [List.all_eq_false]
    exact ⟨i, List.mem_range.2 (List.getElem?_eq_some_iff.1 h).1, by rw [h]; simp [hb]⟩
  unfold ckE ckB; rw [this, Bool.and_false]; rfl
theorem ck_good {l : List Va} (h1 : 1 ≤ l.length) (h2 : l.length ≤ 32) (h : okTo l l.length) : ckE l = none := by
  have : (List.range l.length).all (fun i => (l[i]?.map (okAt l i)).getD true) = true := by
    rw [List.all_eq_true]
    intro i hi
    have hi := List.mem_range.1 hi
    rw [List.getElem?_eq_getElem hi]
    exact h i _ hi (List.getElem?_eq_getElem hi)
  unfold ckE ckB; rw [this, decide_eq_true ⟨h1, h2⟩]; rfl
theorem ck_spec {l : List Va} (h : ckE l = none) : 1 ≤ l.length ∧ l.length ≤ 32 ∧ okTo l l.length := by
  by_cases hl : 1 ≤ l.length ∧ l.length ≤ 32
  · refine ⟨hl.1, hl.2, fun i x hi hx => ?_⟩
    cases ho : okAt l i x with
    | true => rfl
    | false => rw [ck_bad hx ho] at h; cases h
  · rw [ck_len hl] at h; cases h
theorem okAt_no {l : List Va} {i : Nat} {x : Va} (h : nmB x.name = false ∨ (l.take i).any (nmP x.name) = true ∨ x.pow < 1 ∨ 1099511627776 - sumV (l.take i) < x.pow) : okAt l i x = false := by
  unfold okAt
  rcases h with h | h | h | h
  · rw [h]; rfl
  · rw [h]; simp
  · rw [decide_eq_false (by omega)]; simp
  · rw [decide_eq_false (by omega)]; simp
theorem okAt_yes {l : List Va} {i : Nat} {x : Va} (h1 : nmB x.name = true) (h2 : (l.take i).any (nmP x.name) = false) (h3 : 1 ≤ x.pow) (h4 : x.pow ≤ 1099511627776 - sumV (l.take i)) : okAt l i x = true := by
  unfold okAt; rw [h1, h2, decide_eq_true ⟨h3, h4⟩]; rfl
set_option maxHeartbeats 4000000 in
theorem checkset_any (l : List Va) (v : Value) (w : World) (hv : VaIn w v l) (hz : ∀ x ∈ l, x.name.size ≤ 140737488351232) :
    Calls Tryz.prog 22 #[v] w fun e w' => e = .returned (errV (ckE l)) ∧ Below w.heap.size w w' := by
  obtain ⟨a, cap, rfl, hcap, hmax⟩ := hv.len
  have hmI : (l.length : Int) ≤ 9223372036854775807 := by unfold maxLen at hmax; omega
  by_cases h1 : l.length < 1
  · have h1I : (l.length : Int) < 1 := by omega
    rw [ck_len (by omega)]
    simp only [errV]
    clear hv hz h1
    go_enter Tryz.func22, Tryz.ntmps22
    go_wp2_with (fail)
    go_ret
    exact ⟨rfl, Below.refl _ _⟩
  by_cases h2 : 32 < l.length
  · have h1I : ¬ (l.length : Int) < 1 := by omega
    have h2I : (32 : Int) < (l.length : Int) := by omega
    rw [ck_len (by omega)]
    simp only [errV]
    clear hv hz h1 h2
    go_enter Tryz.func22, Tryz.ntmps22
    go_wp2_with (fail)
    go_ret
    exact ⟨rfl, Below.refl _ _⟩
  have HV := Lib.hid hv
  have HZ := Lib.hid hz
  have HCAP := Lib.hid hcap
  obtain ⟨E, hE⟩ : ∃ E, E = errV (ckE l) := ⟨_, rfl⟩
  have HEE := Lib.hid hE
  have HG := Lib.hid (fun h => ck_good (l := l) (by omega) (by omega) h)
  rw [← hE]
  obtain ⟨n, hn⟩ : ∃ n, n = l.length := ⟨_, rfl⟩
  have HN := Lib.hid hn
  have h1I : ¬ (n : Int) < 1 := by omega
  have h2I : ¬ (32 : Int) < (n : Int) := by omega
  have hn32 : n ≤ 32 := by omega
  rw [← hn] at HV HCAP ⊢
  clear hv hz h1 h2 hE hn hcap hmax hmI
  go_enter Tryz.func22, Tryz.ntmps22
  go_upto_region 5 with (fail)
  have HR0 := Lib.hid (show okTo l 0 ∧ (1099511627776 : Int) = 1099511627776 - sumV (l.take 0) from ⟨fun i x h => by omega, rfl⟩)
  have HB0 := Lib.hid (Below.refl w.heap.size w)
  go_wp2_with (fail)
  go_loopw [3, 18] (fun y x wr => ∃ (k : Nat) (lf : Int), k ≤ n ∧ y = .int .i64 lf ∧ x = .int .i64 (k : Int) ∧ 0 ≤ lf ∧ lf ≤ 1099511627776 ∧ Hid (okTo l k ∧ lf = 1099511627776 - sumV (l.take k)) ∧ Hid (Below w.heap.size w wr)) (fun _ x _ => n - (intOf x).toNat)
  case atStart => exact ⟨0, _, Nat.zero_le _, rfl, rfl, by omega, by omega, HR0, HB0⟩
  case round =>
    clear HR0 HB0
    obtain ⟨k, lf, hkn, rfl, rfl, hlf0, hlf1, HR, HB⟩ := hrel
    by_cases hlt : k < n
    · have hltI : (k : Int) < (n : Int) := by omega
      obtain ⟨x, hx⟩ : ∃ x, l[k]? = some x := ⟨l[k]'(by have := HN.out; omega), List.getElem?_eq_getElem _⟩
      have hv := HV.out.below HB.out
      rw [HN.out] at hv
      have HCUT := Lib.hid (hv.cut k (by have := HN.out; omega))
      obtain ⟨ab, ao, rfl, hab, hra⟩ := hv.at hx
      have HRA := Lib.hid hra
      have HX := Lib.hid hx
      have HNS := Lib.hid (HZ.out x (List.mem_of_getElem? hx))
      have hsl := sliceVhi (some ⟨ab, ao, none⟩) n cap k (by have := HCAP.out; omega)
      clear hv hab hra hx
      go_upto_region 7 with (first
        | (refine wpList_load_rowT (by rfl) 54 (.tmp 21) rfl ab (ao + k * 34) rfl (vaC x) _ HRA.out Tryz.underlying54 rfl (by rw [vaC_size]; kernel_rfl) ?_)
        | (refine wpList_store_row rfl 54 (.tmp 5) (.tmp 22) rfl wr.heap.size (vaC x) rfl rfl 54 _ (heap_alloc_new _ _) (by rw [vaC_size]; kernel_rfl) (by rw [vaC_size]; rfl) (vaC_one _) ?_; rw [World.setRow_alloc_new]))
      have hba := below_alloc wr (.cells (vaC x) 54)
      have HQ := Lib.hid (heap_alloc_new wr (.cells (vaC x) 54))
      have HB2 := Lib.hid (HB.out.trans (hba.mono HB.out.size))
      replace HCUT := Lib.hid (HCUT.out.below hba)
      obtain ⟨q, hq⟩ : ∃ q, q = wr.heap.size := ⟨_, rfl⟩
      rw [← hq] at HQ ⊢
      clear hba hq
      generalize wr.alloc (.cells (vaC x) 54) = w2 at *
      have c0 := (va_cells HQ.out).1
      have HNM := Lib.hid (isname_any x.name w2 HNS.out)
      cases hnb : nmB x.name with
      | false =>
        have HF := Lib.hid (ck_bad HX.out (okAt_no (.inl hnb)))
        rw [hnb] at HNM
        clear hnb
        go_wp2_with (first
          | (go_at_call 73; (with_reducible refine HNM.out.mono ?_); rintro e w3 ⟨rfl, hb⟩; replace HB2 := Lib.hid (HB2.out.trans (hb.mono HB2.out.size)); clear hb))
        go_ret
        exact ⟨by rw [HEE.out, HF.out]; rfl, HB2.out⟩
      | true =>
        have HNB := Lib.hid hnb
        rw [hnb] at HNM
        clear hnb
        have HCF := Lib.hid (fun w h1 h2 => contf_any (l.take k) (.slice (cutA (some ⟨ab, ao, none⟩) cap 0) k cap) q x.name w h1 h2 (by rw [List.length_take]; omega))
        cases han : (l.take k).any (nmP x.name) with
        | true =>
          have HF := Lib.hid (ck_bad HX.out (okAt_no (.inr (.inl han))))
          rw [han] at HCF
          clear han
          go_wp2_with (first
            | (go_at_call 73; (with_reducible refine HNM.out.mono ?_); rintro e w3 ⟨rfl, hb⟩; replace HB2 := Lib.hid (HB2.out.trans (hb.mono HB2.out.size)); replace HCUT := Lib.hid (HCUT.out.below hb); replace HQ := Lib.hid ((hb.block _ (bkT_lt HQ.out)).trans HQ.out); clear hb)
            | (go_at_call 74; (with_reducible refine (HCF.out _ HCUT.out (va_cells HQ.out).1).mono ?_); rintro e w4 ⟨rfl, hb⟩; replace HB2 := Lib.hid (HB2.out.trans (hb.mono HB2.out.size)); clear hb))
          go_ret
          exact ⟨by rw [HEE.out, HF.out]; rfl, HB2.out⟩
        | false =>
          have HAN := Lib.hid han
          rw [han] at HCF
          clear han
          go_upto_region 10 with (first
            | (go_at_call 73; (with_reducible refine HNM.out.mono ?_); rintro e w3 ⟨rfl, hb⟩; replace HB2 := Lib.hid (HB2.out.trans (hb.mono HB2.out.size)); replace HCUT := Lib.hid (HCUT.out.below hb); replace HQ := Lib.hid ((hb.block _ (bkT_lt HQ.out)).trans HQ.out); clear hb)
            | (go_at_call 74; (with_reducible refine (HCF.out _ HCUT.out (va_cells HQ.out).1).mono ?_); rintro e w4 ⟨rfl, hb⟩; replace HB2 := Lib.hid (HB2.out.trans (hb.mono HB2.out.size)); replace HQ := Lib.hid ((hb.block _ (bkT_lt HQ.out)).trans HQ.out); clear hb))
          clear c0 HNM HCF HCUT hsl
          have c33 := (va_cells HQ.out).2.1
          obtain ⟨P, hP⟩ : ∃ P, P = x.pow := ⟨_, rfl⟩
          rw [← hP] at c33
          have HP := Lib.hid hP
          by_cases hp1 : P < 1
          · have HF := Lib.hid (ck_bad HX.out (okAt_no (.inr (.inr (.inl (by rw [← hP]; exact hp1))))))
            clear hP
            go_wp2_with (fail)
            go_ret
            exact ⟨by rw [HEE.out, HF.out]; rfl, HB2.out⟩
          by_cases hp2 : lf < P
          · have HF := Lib.hid (ck_bad HX.out (okAt_no (.inr (.inr (.inr (by rw [← hP, ← HR.out.2]; exact hp2))))))
            clear hP
            go_wp2_with (fail)
            go_ret
            exact ⟨by rw [HEE.out, HF.out]; rfl, HB2.out⟩
          have HOK := Lib.hid (okAt_yes HNB.out HAN.out (by rw [← hP]; omega) (by rw [← hP, ← HR.out.2]; omega))
          have HSN := Lib.hid (sumV_snoc HX.out)
          clear hP
          go_wp2_with (fail)
          go_roundw
          case rel =>
            refine ⟨k + 1, lf - P, by omega, by go_num, by go_num, by omega, by omega, Lib.hid ⟨fun i y hi hy => ?_, ?_⟩, HB2⟩
            · rcases (by omega : i < k ∨ i = k) with h | rfl
              · exact HR.out.1 i y h hy
              · rw [HX.out] at hy; injection hy with hy; rw [← hy]; exact HOK.out
            · rw [HSN.out, HR.out.2, HP.out]; omega
          case measure => simp [intOf]; omega
    · obtain rfl : k = n := by omega
      have HF := Lib.hid (HG.out (by rw [← HN.out]; exact HR.out.1))
      go_wp2_with (fail)
      go_ret
      exact ⟨by rw [HEE.out, HF.out]; rfl, HB.out⟩
/-- Total: as Go adds -/
def totW : List Va → Int → Int
  | [], s => s
  | x :: l, s => totW l (wrap64 (s + x.pow))
theorem totW_snoc : ∀ (l : List Va) (x : Va) (s : Int), totW (l ++ [x]) s = wrap64 (totW l s + x.pow)
  | [], x, s => rfl
  | y :: l, x, s => by simp only [List.cons_append, totW]; exact totW_snoc l x _
def totV (l : List Va) : Int := totW l 0
theorem totV_snoc {l : List Va} {k : Nat} {x : Va} (h : l[k]? = some x) : totV (l.take (k + 1)) = wrap64 (totV (l.take k) + x.pow) := by
  unfold totV
  rw [List.take_add_one, h]
  exact totW_snoc _ _ _
set_option maxHeartbeats 2000000 in
theorem total_any (l : List Va) (v : Value) (w : World) (hv : VaIn w v l) :
    Calls Tryz.prog 24 #[v] w fun e w' => e = .returned (.int .i64 (totV l)) ∧ Below w.heap.size w w' := by
  obtain ⟨a, cap, rfl, -, hmax⟩ := hv.len
  have HV := Lib.hid hv
  obtain ⟨T, hT⟩ : ∃ T, T = totV l := ⟨_, rfl⟩
  have HT := Lib.hid hT
  obtain ⟨n, hn⟩ : ∃ n, n = l.length := ⟨_, rfl⟩
  have HN := Lib.hid hn
  have hn1 : n ≤ 9223372036854775807 := by unfold maxLen at hmax; omega
  rw [← hn] at HV ⊢
  rw [← hT]
  clear hv hT hn hmax
  go_enter Tryz.func24, Tryz.ntmps24
  go_upto_region 3 with (fail)
  have HR0 := Lib.hid (show (0 : Int) = totV (l.take 0) from rfl)
  have HB0 := Lib.hid (Below.refl w.heap.size w)
  go_wp2_with (fail)
  go_loopw [3, 8] (fun y x wr => ∃ (k : Nat) (s : Int), k ≤ n ∧ y = .int .i64 s ∧ x = .int .i64 (k : Int) ∧ Hid (s = totV (l.take k)) ∧ Hid (Below w.heap.size w wr)) (fun _ x _ => n - (intOf x).toNat)
  case atStart => exact ⟨0, _, Nat.zero_le _, rfl, rfl, HR0, HB0⟩
  case round =>
    clear HR0 HB0
    obtain ⟨k, s, hkn, rfl, rfl, HR, HB⟩ := hrel
    by_cases hlt : k < n
    · have hltI : (k : Int) < (n : Int) := by omega
      obtain ⟨x, hx⟩ : ∃ x, l[k]? = some x := ⟨l[k]'(by have := HN.out; omega), List.getElem?_eq_getElem _⟩
      have hv := HV.out.below HB.out
      rw [HN.out] at hv
      obtain ⟨ab, ao, rfl, hab, hra⟩ := hv.at hx
      have HRA := Lib.hid hra
      have HSN := Lib.hid (totV_snoc hx)
      clear hv hab hra hx
      go_upto_region 5 with (first
        | (refine wpList_load_rowT (by rfl) 54 (.tmp 10) rfl ab (ao + k * 34) rfl (vaC x) _ HRA.out Tryz.underlying54 rfl (by rw [vaC_size]; kernel_rfl) ?_)
        | (refine wpList_store_row rfl 54 (.tmp 5) (.tmp 11) rfl wr.heap.size (vaC x) rfl rfl 54 _ (heap_alloc_new _ _) (by rw [vaC_size]; kernel_rfl) (by rw [vaC_size]; rfl) (vaC_one _) ?_; rw [World.setRow_alloc_new]))
      have hba := below_alloc wr (.cells (vaC x) 54)
      have c33 := (va_cells (heap_alloc_new wr (.cells (vaC x) 54))).2.1
      have HB2 := Lib.hid (HB.out.trans (hba.mono HB.out.size))
      obtain ⟨q, hq⟩ : ∃ q, q = wr.heap.size := ⟨_, rfl⟩
      rw [← hq] at c33 ⊢
      clear hba hq
      generalize wr.alloc (.cells (vaC x) 54) = w2 at *
      go_wp2_with (fail)
      go_roundw
      case rel => exact ⟨k + 1, wrap64 (s + x.pow), by omega, rfl, by go_num, Lib.hid (by rw [HSN.out, HR.out]), HB2⟩
      case measure => simp [intOf]; omega
    · obtain rfl : k = n := by omega
      go_wp2_with (fail)
      go_ret
      exact ⟨by rw [HT.out]; have := HR.out; rw [HN.out, List.take_length] at this; rw [← this]; rfl, HB.out⟩
end Go.Proofs.YteokgklfljhcaaaGreatDoor
namespace Go.Proofs.YteokgklfljhcaaaGreatDoor
set_option linter.unusedVariables false
set_option linter.unusedSimpArgs false
open Go.RowKit
open Go.Maps (Keyed setOf)
set_option maxRecDepth 100000
set_option linter.unusedSimpArgs false
set_option linter.unusedVariables false
def whoC (x : Va) : Array Value := #[.string x.name] ++ rowOf .u8 32 x.key
def VaWf (x : Va) : Prop := x.name.size ≤ 140737488351232 ∧ ∀ i, i < 32 → 0 ≤ x.key i ∧ x.key i < 256
def WhoL (x : Va) (l : Lit) : Prop := keyOf Tryz.prog 224 (.agg (whoC x)) = some l
theorem whoLaw : Keyed Tryz.prog 224 := Keyed.of_law (deep_law_gate (by kernel_rfl) (of_decide_eq_true (by kernel_rfl)) (of_decide_eq_true (by kernel_rfl)) (by kernel_rfl) (by kernel_rfl))
theorem mapM_some {α β : Type} (g : α → Option β) : ∀ l : List α, (∀ x ∈ l, ∃ y, g x = some y) → ∃ ys, l.mapM g = some ys
  | [], _ => ⟨[], rfl⟩
  | x :: l, h => by
    obtain ⟨y, hy⟩ := h x (by simp)
    obtain ⟨ys, hys⟩ := mapM_some g l fun z hz => h z (by simp [hz])
    exact ⟨y :: ys, by rw [List.mapM_cons, hy, hys]; rfl⟩
theorem lits_str (m : Nat) (s : ByteArray) (h : s.size ≤ maxLen) : Tryz.prog.keyLits (m + 1) 9 [.string s] = some [.string s.data.toList] := by
  unfold Program.keyLits
  rw [Tryz.underlying9]
  simp only
  rw [if_pos h]
theorem lits_u8 (m : Nat) (x : Int) (h : 0 ≤ x ∧ x < 256) : Tryz.prog.keyLits (m + 1) 5 [.int .u8 x] = some [.int .u8 x] := by
  unfold Program.keyLits
  rw [Tryz.underlying5]
  simp only
  rw [if_pos ⟨trivial, WalkArith.wf_u8 (by omega)⟩]
theorem lits_hash (m : Nat) (f : Nat → Int) (h : ∀ i, i < 32 → 0 ≤ f i ∧ f i < 256) : ∃ ls, Tryz.prog.keyLits (m + 2) 23 (rowOf .u8 32 f).toList = some ls := by
  unfold Program.keyLits
  rw [Tryz.underlying23]
  simp only
  rw [if_pos (by rw [Array.length_toList, rowOf_size]; kernel_rfl)]
  obtain ⟨ys, hys⟩ := mapM_some (fun i => Tryz.prog.keyLits (m + 1) 5 (((rowOf .u8 32 f).toList.drop (i * Tryz.prog.cellsOf 5)).take (Tryz.prog.cellsOf 5))) (List.range 32) fun i hi => by
    have hi := List.mem_range.1 hi
    refine ⟨[.int .u8 (f i)], ?_⟩
    rw [show Tryz.prog.cellsOf 5 = 1 by kernel_rfl]
    have : ((rowOf .u8 32 f).toList.drop (i * 1)).take 1 = [.int .u8 (f i)] := by
      rw [Nat.mul_one, List.take_one, List.head?_drop, Array.getElem?_toList, rowOf_get _ _ _ _ hi]; rfl
    rw [this]
    exact lits_u8 m _ (h i hi)
  exact ⟨ys.flatten, by rw [hys]; rfl⟩
theorem who_key {x : Va} (h : VaWf x) : ∃ l, WhoL x l := by
  unfold WhoL keyOf
  rw [Tryz.underlying224]
  simp only
  obtain ⟨m, hm⟩ : ∃ m, Tryz.prog.types.size + 1 = m + 3 := ⟨Tryz.prog.types.size - 2, by kernel_rfl⟩
  rw [if_pos (by
    rw [show Tryz.prog.keyType 224 = true by kernel_rfl, Bool.true_and]
    unfold Value.formed
    rw [Tryz.underlying224]
    simp only
    rw [show (whoC x).size = 33 by simp [whoC, rowOf_size]]
    kernel_rfl), hm]
  obtain ⟨ls, hls⟩ := lits_hash m x.key h.2
  have e1 := lits_str (m + 1) x.name (by have := h.1; unfold maxLen; omega)
  have hc : (Value.agg (whoC x)).cells.toList = .string x.name :: (rowOf .u8 32 x.key).toList := by simp [Value.cells, whoC]
  rw [hc]
  unfold Program.keyLits
  rw [Tryz.underlying224]
  simp only
  rw [if_pos (by
    refine ⟨?_, by kernel_rfl⟩
    rw [List.length_cons, Array.length_toList, rowOf_size]
    kernel_rfl)]
  have key : ∀ f : Field, (f.type = 9 ∧ f.offset = 0) ∨ (f.type = 23 ∧ f.offset = 1) → ∃ y, Tryz.prog.keyLits (m + 2) f.type (List.take (Tryz.prog.cellsOf f.type) (List.drop f.offset (Value.string x.name :: (rowOf IntKind.u8 32 x.key).toList))) = some y := by
    rintro f (⟨h1, h2⟩ | ⟨h1, h2⟩)
    · rw [h1, h2, show Tryz.prog.cellsOf 9 = 1 by kernel_rfl]
      exact ⟨_, e1⟩
    · rw [h1, h2, show Tryz.prog.cellsOf 23 = 32 by kernel_rfl]
      refine ⟨ls, ?_⟩
      rw [show List.take 32 (List.drop 1 (Value.string x.name :: (rowOf IntKind.u8 32 x.key).toList)) = (rowOf IntKind.u8 32 x.key).toList from by
        rw [List.drop_succ_cons, List.drop_zero]
        exact List.take_of_length_le (by rw [Array.length_toList, rowOf_size]; omega)]
      exact hls
  have fin : ∀ fs : List Field, (∀ f ∈ fs, (f.type = 9 ∧ f.offset = 0) ∨ (f.type = 23 ∧ f.offset = 1)) → ∃ l, Option.map (fun ls => Lit.string (keyBytes ls)) (Option.map List.flatten (List.mapM (fun f : Field => Tryz.prog.keyLits (m + 2) f.type (List.take (Tryz.prog.cellsOf f.type) (List.drop f.offset (Value.string x.name :: (rowOf IntKind.u8 32 x.key).toList)))) fs)) = some l := fun fs hfs => by
    obtain ⟨ys, hys⟩ := mapM_some (fun f : Field => Tryz.prog.keyLits (m + 2) f.type (List.take (Tryz.prog.cellsOf f.type) (List.drop f.offset (Value.string x.name :: (rowOf IntKind.u8 32 x.key).toList)))) fs fun f hf => key f (hfs f hf)
    rw [hys]
    exact ⟨_, rfl⟩
  refine fin _ fun f hf => ?_
  simp only [List.mem_cons, List.not_mem_nil, or_false] at hf
  rcases hf with rfl | rfl
  · exact .inl ⟨rfl, rfl⟩
  · exact .inr ⟨rfl, rfl⟩
/-- known again: by the name and the key -/
def sameW (y x : Va) : Bool := decide (y.name = x.name) && (List.range 32).all fun j => decide (y.key j = x.key j)
theorem whoC_eq {x y : Va} : whoC y = whoC x ↔ sameW y x = true := by
  unfold sameW
  rw [Bool.and_eq_true, decide_eq_true_iff, List.all_eq_true]
  constructor
  · intro h
    have hj : ∀ j : Nat, (whoC y)[j]? = (whoC x)[j]? := fun j => by rw [h]
    refine ⟨?_, fun j hm => decide_eq_true ?_⟩
    · have := hj 0
      unfold whoC at this
      rw [Array.getElem?_append_left (by simp), Array.getElem?_append_left (by simp)] at this
      injection this with this
      injection this
    · have hm := List.mem_range.1 hm
      have := hj (1 + j)
      unfold whoC at this
      rw [Array.getElem?_append_right (by simp), Array.getElem?_append_right (by simp)] at this
      simp only [List.size_toArray, List.length_cons, List.length_nil, Nat.zero_add, Nat.add_sub_cancel_left] at this
      rw [rowOf_get _ _ _ _ hm, rowOf_get _ _ _ _ hm] at this
      injection this with this
      injection this
  · rintro ⟨h1, h2⟩
    unfold whoC
    rw [h1, rowOf_congr .u8 32 y.key x.key fun j hj => of_decide_eq_true (h2 j (List.mem_range.2 hj))]
theorem whoL_same {x y : Va} {lx ly : Lit} (hx : WhoL x lx) (hy : WhoL y ly) : ly.sameKey lx = sameW y x := by
  by_cases h : ly = lx
  · subst h
    rw [WideAt.sameKey_self (whoLaw.key hx)]
    have := whoLaw.inj hx hy
    injection this with this
    exact (whoC_eq.1 this.symm).symm
  · rw [Maps.sameKey_ne h]
    cases hs : sameW y x with
    | false => rfl
    | true =>
      exfalso
      have := whoC_eq.2 hs
      unfold WhoL at hx hy
      rw [this, hx] at hy
      injection hy with hy
      exact h hy.symm
/-- a vote -/
structure Vo where
  kind : Int
  height : Int
  round : Int
  blk : Nat → Int
  val : Int
  sv : Value
  sign : List Int
def voC (v : Vo) : Array Value := #[.int .i64 v.kind, .int .i64 v.height, .int .i64 v.round] ++ rowOf .u8 32 v.blk ++ #[.int .i64 v.val, v.sv]
theorem voC_size (v : Vo) : (voC v).size = 37 := by simp [voC, rowOf_size]
theorem voC_one (v : Vo) (h : ∃ a n c, v.sv = .slice a n c) : (voC v).all (·.oneCell') = true := by
  obtain ⟨a, n, c, h⟩ := h
  unfold voC
  rw [Array.all_append, Array.all_append, rowOf_one, h]
  simp [Value.oneCell']
theorem vo_cells {w : World} {g : Nat} {v : Vo} {T : TypeId} (h : w.heap[g]? = some (.cells (voC v) T (0, 0))) :
    w.cell? ⟨g, 0, none⟩ = some (.int .i64 v.kind) ∧ w.cell? ⟨g, 1, none⟩ = some (.int .i64 v.height) ∧ w.cell? ⟨g, 2, none⟩ = some (.int .i64 v.round) ∧ w.rangeAt g 3 (rowOf .u8 32 v.blk).toList ∧ w.cell? ⟨g, 35, none⟩ = some (.int .i64 v.val) ∧ w.cell? ⟨g, 36, none⟩ = some v.sv := by
  have hs : (rowOf .u8 32 v.blk).size = 32 := rowOf_size _ _ _
  refine ⟨?_, ?_, ?_, fun j u hu => ?_, ?_, ?_⟩
  · rw [cell_of_row w g 0 _ _ _ h]; unfold voC
    rw [Array.getElem?_append_left (by simp; omega), Array.getElem?_append_left (by simp)]; rfl
  · rw [cell_of_row w g 1 _ _ _ h]; unfold voC
    rw [Array.getElem?_append_left (by simp; omega), Array.getElem?_append_left (by simp)]; rfl
  · rw [cell_of_row w g 2 _ _ _ h]; unfold voC
    rw [Array.getElem?_append_left (by simp; omega), Array.getElem?_append_left (by simp)]; rfl
  · have hj : j < 32 := by have := (List.getElem?_eq_some_iff.1 hu).1; simpa [hs] using this
    rw [cell_of_row w g (3 + j) _ _ _ h]; unfold voC
    rw [Array.getElem?_append_left (by simp [hs]; omega), Array.getElem?_append_right (by simp)]
    simpa using hu
  · rw [cell_of_row w g 35 _ _ _ h]; unfold voC
    rw [Array.getElem?_append_right (by simp [hs])]; simp [hs]
  · rw [cell_of_row w g 36 _ _ _ h]; unfold voC
    rw [Array.getElem?_append_right (by simp [hs])]; simp [hs]
abbrev VoIn (w : World) (v : Value) (l : List Vo) : Prop := RowsIn 37 (fun t => (voC t).toList) w v l
/-- a row of truths -/
def blC (f : Nat → Bool) (n : Nat) : Array Value := ((List.range n).map fun i => Value.bool (f i)).toArray
theorem blC_size (f : Nat → Bool) (n : Nat) : (blC f n).size = n := by simp [blC]
theorem blC_get (f : Nat → Bool) (n i : Nat) (h : i < n) : (blC f n)[i]? = some (.bool (f i)) := by simp [blC, h]
theorem blC_set (f : Nat → Bool) (n i : Nat) (b : Bool) : (blC f n).setIfInBounds i (.bool b) = blC (fun j => if j = i then b else f j) n := by
  apply Array.ext_getElem?
  intro j
  simp only [Array.getElem?_setIfInBounds, blC_size]
  by_cases hj : j < n
  · rw [blC_get _ _ j hj, blC_get _ _ j hj]
    by_cases e : i = j
    · subst e; simp [hj]
    · have e' : ¬ j = i := fun x => e x.symm
      simp [e, e']
  · have h1 : (blC f n)[j]? = none := by simp [blC_size]; omega
    have h2 : (blC (fun k => if k = i then b else f k) n)[j]? = none := by simp [blC_size]; omega
    rw [h1, h2]
    by_cases e : i = j
    · subst e; simp [hj]
    · simp [e]
theorem blC_congr (f g : Nat → Bool) (n : Nat) (h : ∀ i, i < n → f i = g i) : blC f n = blC g n := by
  unfold blC
  congr 1
  apply List.map_congr_left
  intro i hi
  rw [h i (by simpa using hi)]
theorem infoBlT : (Tryz.prog.info? 4).map (fun i => (i.zero, i.size, i.bytes)) = some (some (.bool false), 1, 1) := by kernel_rfl
theorem make_bools (n : Nat) (hn : n ≤ 1099511627776) (w : World) : (Instr.makeSlice 219 (.int .i64 (n : Int)) (.int .i64 (n : Int))).run Tryz.prog w = .ok (.slice (some ⟨w.heap.size, 0, none⟩) n n) (w.alloc (.cells (blC (fun _ => false) n) 4)) := by
  obtain ⟨i0, hi, hz0, hz1, hz2⟩ := info_parts infoBlT
  have := run_make w 219 4 i0 _ Tryz.underlying219 hi hz0 .i64 .i64 (n : Int) (n : Int) (by omega) (by omega) (by rw [hz2]; omega) (by omega)
  rw [Int.toNat_natCast, hz1] at this
  rw [this]
  have e : madeCells (Value.bool false).cells (n * 1) = blC (fun _ => false) n := by
    apply Array.ext_getElem?
    intro j
    by_cases hj : j < n
    · rw [blC_get _ _ _ hj]
      simp [madeCells, Value.cells, hj]
      rw [Nat.mod_one]; rfl
    · rw [Array.getElem?_eq_none (by rw [size_madeCells]; omega), Array.getElem?_eq_none (by rw [blC_size]; omega)]
  rw [e]
end Go.Proofs.YteokgklfljhcaaaGreatDoor

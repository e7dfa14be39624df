/- Part 8 of the proof. -/
import Derived.Great.BuildSlice
import Derived.Test.YtllpnpeppdfjlaaGreatDoorSx3
import Derived.Test.YtllpnpeppdfjlaaGreatDoorSx7
namespace Go.Proofs.YtllpnpeppdfjlaaGreatDoor
set_option linter.unusedVariables false
set_option linter.unusedSimpArgs false
open Go.RowKit
set_option maxRecDepth 100000
set_option linter.unusedSimpArgs false
set_option linter.unusedVariables false
def encL (x : Px) : List Int := if (encE x).isNone then pxB x else []
theorem encE_chk {x : Px} {e : Nat} (h : chkX x = some e) : encE x = some e ∧ encL x = [] := by
  have : encE x = some e := by unfold encE; rw [h]
  exact ⟨this, by unfold encL; rw [this]; rfl⟩
theorem encE_long {x : Px} (h : chkX x = none) (hl : 65536 < (pxB x).length) : encE x = some 2 ∧ encL x = [] := by
  have : encE x = some 2 := by unfold encE; rw [h]; exact if_pos hl
  exact ⟨this, by unfold encL; rw [this]; rfl⟩
theorem encE_ok {x : Px} (h : chkX x = none) (hl : ¬ 65536 < (pxB x).length) : encE x = none ∧ encL x = pxB x := by
  have : encE x = none := by unfold encE; rw [h]; exact if_neg hl
  exact ⟨this, by unfold encL; rw [this]; rfl⟩
set_option maxHeartbeats 8000000 in
theorem tenc_any (x : Tr) (w : World) (h : ShTab w) (hx : TrE w x) (hf : TrFl x) (ha : x.acc.size ≤ 9223372036854775807) (hd : x.den.size ≤ 140737488351232) (hl : (trB x).length + 400 ≤ 140737488355328) :
    Calls Tryz.prog 28 #[.agg (trC15 x)] w fun e w' => ∃ vb, e = .returned (.tuple #[vb, errV (encE (pxP x))]) ∧ BytesIn w' vb (encL (pxP x)) ∧ Below w.heap.size w w' := by
  have HLN := Lib.hid (show (trB x).length = (tr1 x).length + ((varint x.sg.length).length + x.sg.length) from by simp only [trB, List.length_append])
  have HL := Lib.hid hl
  have hba := below_alloc w (.cells (trC15 x) 67)
  have M := Lib.hid (show TxB w w.heap.size (trC15 x) x (w.alloc (.cells (trC15 x) 67)) from ⟨heap_alloc_new _ _, hx.below hba, hba⟩)
  have HT := Lib.hid (h.below hba h.lt)
  have HCS := Lib.hid (trC15_size x)
  obtain ⟨sa, sc, hsv⟩ := hx.v.s
  have HC5 := Lib.hid (show (trC15 x)[5]? = some (.slice sa x.sg.length sc) from by unfold trC15; rw [hsv]; rfl)
  have HSV := Lib.hid hsv
  have HCW := Lib.hid (fun g v XS w hw w0 hg hB he hr => wuns15_any x g v XS w hw w0 hg hB he hf hr)
  have HCK := Lib.hid (fun w h he => tcheck_any x w h he ha hd)
  have HSE := Lib.hid (show pxB (pxP x) = tr1 x ++ (varint x.sg.length ++ x.sg) from by rw [← trB_P]; rfl)
  have HPL := Lib.hid (show (pxB (pxP x)).length = (trB x).length from by rw [← trB_P])
  have E1 := Lib.hid (fun e => encE_chk (x := pxP x) (e := e))
  have E2 := Lib.hid (encE_long (x := pxP x))
  have E3 := Lib.hid (encE_ok (x := pxP x))
  obtain ⟨CC, hCC⟩ : ∃ z, z = trC15 x := ⟨_, rfl⟩
  rw [← hCC] at M HT HCS HCW HC5 HCK ⊢
  obtain ⟨P, hP⟩ : ∃ z, z = pxP x := ⟨_, rfl⟩
  rw [← hP] at HCK HSE HPL E1 E2 E3 ⊢
  obtain ⟨EE, hEE⟩ : ∃ z, z = encE P := ⟨_, rfl⟩
  obtain ⟨EL, hEL⟩ : ∃ z, z = encL P := ⟨_, rfl⟩
  rw [← hEE, ← hEL] at E1 E2 E3 ⊢
  obtain ⟨CK, hCK⟩ : ∃ z, z = chkX P := ⟨_, rfl⟩
  rw [← hCK] at HCK E1 E2 E3
  obtain ⟨LT, hLT⟩ : ∃ z, z = tr1 x := ⟨_, rfl⟩
  rw [← hLT] at HLN HCW HSE
  obtain ⟨LP, hLP⟩ : ∃ z, z = pxB P := ⟨_, rfl⟩
  rw [← hLP] at HSE HPL E2 E3
  obtain ⟨SG, hSG⟩ : ∃ z, z = x.sg := ⟨_, rfl⟩
  have HSG := Lib.hid hSG
  rw [← hSG] at HLN HC5 HSE HSV
  obtain ⟨n, hn⟩ : ∃ z, z = SG.length := ⟨_, rfl⟩
  have HN := Lib.hid hn
  rw [← hn] at HC5 HLN HSE HSV
  obtain ⟨TB, hTB⟩ : ∃ z, z = (trB x).length := ⟨_, rfl⟩
  rw [← hTB] at HL HLN HPL
  clear hl hCC hP hEE hEL hCK hLT hLP hSG hn hx hf hsv hba h ha hd hTB
  go_enter Tryz.func28, Tryz.ntmps28
  go_upto_region 1 with (fail)
  obtain ⟨q, hq⟩ : ∃ q, q = w.heap.size := ⟨_, rfl⟩
  rw [← hq] at M ⊢
  clear hq
  generalize w.alloc (.cells CC 67) = w1 at *
  cases CK with
  | some e0 =>
    obtain ⟨hE, hZ⟩ := E1.out e0 rfl
    have HE := Lib.hid hE
    have HZ := Lib.hid hZ
    clear hE hZ E1 E2 E3
    simp only [errV] at HCK
    go_wp2_with (first
      | (refine wpList_load_rowT (by rfl) 67 (.tmp 1) rfl q 0 rfl CC _ (rowT_range M.out.r) Tryz.underlying67 rfl (by rw [HCS.out]; kernel_rfl) ?_)
      | (go_at_call 32; (with_reducible refine (HCK.out _ HT.out M.out.x).mono ?_); rintro e w2 ⟨rfl, hb⟩; have HB2 := Lib.hid (M.out.b.trans (hb.mono M.out.b.size)); clear hb))
    go_ret2
    exact ⟨_, by rw [HE.out]; rfl, by rw [HZ.out]; exact nil_in _, HB2.out⟩
  | none =>
    clear E1
    simp only [errV] at HCK
    go_upto_region 4 with (first
      | (refine wpList_load_rowT (by rfl) 67 (.tmp 1) rfl q 0 rfl CC _ (rowT_range M.out.r) Tryz.underlying67 rfl (by rw [HCS.out]; kernel_rfl) ?_)
      | (go_at_call 32; (with_reducible refine (HCK.out _ HT.out M.out.x).mono ?_); rintro e w2 ⟨rfl, hb⟩; replace M := Lib.hid (M.out.call hb); clear hb))
    go_upto_region 6 with (first
      | (go_at_call 68; (with_reducible refine (new_any w2).mono ?_); rintro e w3 ⟨rfl, hw, hb⟩; obtain ⟨g, hg⟩ : ∃ g, g = w2.heap.size := ⟨_, rfl⟩; rw [← hg] at hw ⊢; have HG := Lib.hid hg; have HW := Lib.hid hw; have HB3 := Lib.hid hb; have HQ3 := Lib.hid ((hb.block q (bkT_lt M.out.r)).trans M.out.r); clear hw hb hg)
      | (refine wpList_load_rowT (by rfl) 67 (.tmp 1) rfl q 0 rfl CC _ (rowT_range HQ3.out) Tryz.underlying67 rfl (by rw [HCS.out]; kernel_rfl) ?_)
      | (go_at_call 69; (with_reducible refine (HCW.out g _ [] w3 HW.out w2 (by rw [HG.out]; exact Nat.le_refl _) HB3.out M.out.x (by have := HL.out; have := HLN.out; simp only [List.length_nil]; omega)).mono ?_); rintro e w4 ⟨rfl, v4, hw, hs⟩; have HB4 := Lib.hid (HB3.out.trans (hs.below HW.out (by rw [HG.out]; exact Nat.le_refl _))); replace HW := Lib.hid (show WAt w4 g v4 LT from hw); have HQ4 := Lib.hid ((HB4.out.block q (bkT_lt M.out.r)).trans M.out.r); clear hw hs))
    have c5 : w4.cell? ⟨q, 5, none⟩ = some (.slice sa n sc) := by rw [cell_of_row _ _ _ _ _ _ HQ4.out]; exact HC5.out
    have HWB := Lib.hid (show Calls Tryz.prog 70 #[.pointer (some ⟨g, 0, none⟩), .slice sa n sc] w4 (WPost g v4 LT (varint n ++ SG) w4) from by
      have hs := M.out.x.s
      rw [HSV.out, ← HSG.out] at hs
      have h := wbytes_any g v4 (.slice sa n sc) LT SG w4 HW.out (hs.below HB4.out) (fun hn => apart_of hs hn (by rw [HG.out]; exact Nat.le_refl _) HW.out) (by have := HL.out; have := HLN.out; have := HN.out; omega)
      rw [← HN.out] at h
      exact h)
    go_upto_region 7 with (first
      | (go_at_call 70; (with_reducible refine HWB.out.mono ?_); rintro e w5 hp; obtain ⟨rfl, v5, hw, hs⟩ := wpS_next hp; have HB5 := Lib.hid (HB4.out.trans (hs.below HW.out (by rw [HG.out]; exact Nat.le_refl _))); replace HW := Lib.hid (show WAt w5 g v5 LP from by rw [HSE.out]; exact hw); clear hp hw hs)
      | (go_at_call 71; (with_reducible refine (done_any g _ _ w5 HW.out (by have := HL.out; have := HPL.out; omega)).mono ?_); rintro e w6 ⟨vb, rfl, ho, hb⟩; have HO := Lib.hid (owns_in ho (by have := HL.out; have := HPL.out; unfold maxLen; omega)); have HB6 := Lib.hid (M.out.b.trans ((HB5.out.trans (hb.mono HB5.out.size)).mono M.out.b.size)); clear ho hb))
    clear c5
    obtain ⟨va, vc, rfl, -⟩ := id HO.out
    have HLPN := Lib.hid HPL.out
    obtain ⟨nl, hnl⟩ : ∃ z, z = LP.length := ⟨_, rfl⟩
    have HNL := Lib.hid hnl
    rw [← hnl] at HO E2 E3 ⊢
    have hnlI : (nl : Int) ≤ 9223372036854775807 := by have := HL.out; have := HPL.out; omega
    clear hnl
    by_cases h6 : 65536 < nl
    · have h6I : (65536 : Int) < (nl : Int) := by omega
      obtain ⟨hE, hZ⟩ := E2.out (by trivial) h6
      have HE := Lib.hid hE
      have HZ := Lib.hid hZ
      clear hE hZ E2 E3
      go_wp2_with (fail)
      go_ret2
      exact ⟨_, by rw [HE.out]; rfl, by rw [HZ.out]; exact nil_in _, HB6.out⟩
    · have h6I : ¬ (65536 : Int) < (nl : Int) := by omega
      obtain ⟨hE, hZ⟩ := E3.out (by trivial) h6
      have HE := Lib.hid hE
      have HZ := Lib.hid hZ
      clear hE hZ E2 E3
      go_wp2_with (fail)
      go_ret2
      exact ⟨_, by rw [HE.out]; rfl, by rw [HZ.out]; exact HO.out, HB6.out⟩
theorem cn_built (s : ByteArray) (a : Int) : Tryz.prog.built 59 [(0, .string s), (1, .int .i64 a)] = some #[.string s, .int .i64 a] := by kernel_rfl
theorem tx_built (ac dn : ByteArray) (S A : Int) (a1 a2 : Option Addr) (n1 n2 c1 c2 : Nat) : Tryz.prog.built 67 [(0, .string ac), (1, .int .i64 S), (2, .agg #[.string dn, .int .i64 A]), (3, .slice a1 n1 c1), (4, .slice a2 n2 c2)] = some #[.string ac, .int .i64 S, .string dn, .int .i64 A, .slice a1 n1 c1, .slice a2 n2 c2] := by kernel_rfl
/-- a transaction whose parts are new from block N on -/
structure TrO (w : World) (N : Nat) (x : Tr) : Prop where
  m : LgO 4 mgL MgE mgF w N x.mv x.ms
  s : BytesIn w x.sv x.sg
  o : ∀ j, x.sv.ownBlock = some j → N ≤ j ∧ j < w.heap.size
theorem TrO.e {w : World} {N : Nat} {x : Tr} (h : TrO w N x) : TrE w x := ⟨h.m.rows, fun m hm => (h.m.el m hm).1, h.s⟩
theorem TrO.below {w w' : World} {N : Nat} {x : Tr} (h : TrO w N x) (hb : Below w.heap.size w w') : TrO w' N x := ⟨LgO.below mgK h.m hb, h.s.below hb, fun j hj => ⟨(h.o j hj).1, Nat.lt_of_lt_of_le (h.o j hj).2 hb.size⟩⟩
theorem TrO.only {w w' : World} {N p : Nat} {x : Tr} (h : TrO w N x) (ho : Only p w w') (hp : p < N) : TrO w' N x := ⟨LgO.only mgK h.m ho hp, h.s.only ho (fun j hj => by have := h.o j hj; omega), fun j hj => ⟨(h.o j hj).1, Nat.lt_of_lt_of_le (h.o j hj).2 ho.size⟩⟩
set_option maxHeartbeats 8000000 in
theorem rtx15_any (p : Nat) (ob : Option Nat) (s : RSt) (w : World) (h : RO w p ob s) :
    Calls Tryz.prog 82 #[.pointer (some ⟨p, 0, none⟩)] w fun r w' => ∃ x : Tr, r = .returned (.agg (trC15 x)) ∧ TrO w' w.heap.size x ∧ pxP x = txV15 s ∧ RO w' p ob (txR15 s) ∧ Only p w w' := by
  have HLT := Lib.hid h.lt11
  have HOB := Lib.hid h.own11
  have HR0' := Lib.hid (fun o => h.below11 (below_alloc w o))
  have HT := Lib.hid (fun s w (h : RO w p ob s) => show Calls Tryz.prog 134 #[.pointer (some ⟨p, 0, none⟩), .int .i64 65536] w fun r w' => r = .returned (.string (sV15 s)) ∧ RO w' p ob (pR15 s) ∧ Only p w w' from rtextO_any p ob s 65536 w h (by omega) (by omega))
  have HI := Lib.hid (fun s w (h : RO w p ob s) => show Calls Tryz.prog 135 #[.pointer (some ⟨p, 0, none⟩)] w fun r w' => r = .returned (.int .i64 (iV15 s)) ∧ RO w' p ob (iR15 s) ∧ Only p w w' from intO_any p ob s w h)
  have HD := Lib.hid (fun s w (h : RO w p ob s) => show Calls Tryz.prog 138 #[.pointer (some ⟨p, 0, none⟩), .int .i64 65536] w fun r w' => ∃ v, r = .returned v ∧ BytesIn w' v (dV15 s) ∧ (∀ j, v.ownBlock = some j → w.heap.size ≤ j ∧ j < w'.heap.size) ∧ RO w' p ob (pR15 s) ∧ Only p w w' from rbytesO_any p ob s 65536 w h (by omega) (by omega))
  have HV := Lib.hid (show txV15 s = ⟨sV15 s, iV15 (pR15 s), sV15 (iR15 (pR15 s)), iV15 (pR15 (iR15 (pR15 s))), lstV mgV15 mgR15 65536 (tx4 s), dV15 (lstR mgR15 65536 (tx4 s))⟩ from rfl)
  have HRR := Lib.hid (show txR15 s = pR15 (lstR mgR15 65536 (tx4 s)) from rfl)
  have HEE := Lib.hid (fun h => txE15 (s := s) h)
  unfold tx4 at HV HRR
  obtain ⟨ac, h1⟩ : ∃ z, z = sV15 s := ⟨_, rfl⟩
  obtain ⟨s1, h2⟩ : ∃ z, z = pR15 s := ⟨_, rfl⟩
  have HT1 := Lib.hid (HT.out s)
  rw [← h1, ← h2] at HT1 HV
  rw [← h2] at HRR
  obtain ⟨SQ, h3⟩ : ∃ z, z = iV15 s1 := ⟨_, rfl⟩
  obtain ⟨s2, h4⟩ : ∃ z, z = iR15 s1 := ⟨_, rfl⟩
  have HI1 := Lib.hid (HI.out s1)
  rw [← h3, ← h4] at HI1 HV
  rw [← h4] at HRR
  obtain ⟨dn, h5⟩ : ∃ z, z = sV15 s2 := ⟨_, rfl⟩
  obtain ⟨s3, h6⟩ : ∃ z, z = pR15 s2 := ⟨_, rfl⟩
  have HT2 := Lib.hid (HT.out s2)
  rw [← h5, ← h6] at HT2 HV
  rw [← h6] at HRR
  obtain ⟨AM, h7⟩ : ∃ z, z = iV15 s3 := ⟨_, rfl⟩
  obtain ⟨s4, h8⟩ : ∃ z, z = iR15 s3 := ⟨_, rfl⟩
  have HI2 := Lib.hid (HI.out s3)
  rw [← h7, ← h8] at HI2 HV
  rw [← h8] at HRR
  clear h h1 h2 h3 h4 h5 h6 h7 h8 HT HI
  go_enter Tryz.func82, Tryz.ntmps82
  go_upto_region 1 with (fail)
  generalize hA : World.alloc w _ = w1
  obtain ⟨cz, hcz, hq⟩ : ∃ cz : Array Value, cz.size = 6 ∧ w1.heap[w.heap.size]? = some (.cells cz 67 (0, 0)) := ⟨_, by kernel_rfl, by rw [← hA]; exact heap_alloc_new _ _⟩
  have HCZ := Lib.hid hcz
  have HQ := Lib.hid hq
  have HR0 := Lib.hid (show RO w1 p ob s from by rw [← hA]; exact HR0'.out _)
  have HO0 := Lib.hid (show Only p w w1 from by rw [← hA]; exact Only.of_below (below_alloc _ _))
  have HS1 := Lib.hid (show w1.heap.size = w.heap.size + 1 from by rw [← hA]; simp)
  clear hA hcz hq HR0'
  obtain ⟨q, hqe⟩ : ∃ q, q = w.heap.size := ⟨_, rfl⟩
  have HQE := Lib.hid hqe
  rw [← hqe] at HQ ⊢
  clear hqe
  go_wp2_with (first
    | (go_at_call 134; (with_reducible refine (HT1.out w1 HR0.out).mono ?_); rintro e w2 ⟨rfl, hr, ho⟩; have HR1 := Lib.hid hr; have HO1 := Lib.hid (HO0.out.trans ho); have HG2 := Lib.hid ho.size; replace HQ := Lib.hid ((ho.block q (Array.getElem?_eq_some_iff.1 HQ.out).1 (by have := HLT.out; have := HQE.out; omega)).trans HQ.out); clear hr ho)
    | (go_at_call 135; (with_reducible refine (HI1.out w2 HR1.out).mono ?_); rintro e w3 ⟨rfl, hr, ho⟩; have HR2 := Lib.hid hr; have HO2 := Lib.hid (HO1.out.trans ho); have HG3 := Lib.hid ho.size; replace HQ := Lib.hid ((ho.block q (Array.getElem?_eq_some_iff.1 HQ.out).1 (by have := HLT.out; have := HQE.out; omega)).trans HQ.out); clear hr ho)
    | (go_at_call 134; (with_reducible refine (HT2.out w3 HR2.out).mono ?_); rintro e w4 ⟨rfl, hr, ho⟩; have HR3 := Lib.hid hr; have HO3 := Lib.hid (HO2.out.trans ho); have HG4 := Lib.hid ho.size; replace HQ := Lib.hid ((ho.block q (Array.getElem?_eq_some_iff.1 HQ.out).1 (by have := HLT.out; have := HQE.out; omega)).trans HQ.out); clear hr ho)
    | (go_at_call 135; (with_reducible refine (HI2.out w4 HR3.out).mono ?_); rintro e w5 ⟨rfl, hr, ho⟩; have HR4 := Lib.hid hr; have HO4 := Lib.hid (HO3.out.trans ho); have HG5 := Lib.hid ho.size; replace HQ := Lib.hid ((ho.block q (Array.getElem?_eq_some_iff.1 HQ.out).1 (by have := HLT.out; have := HQE.out; omega)).trans HQ.out); have HCB := Lib.hid (cn_built dn AM); clear hr ho)
    | (refine wpList_buildTo rfl 59 #[(0, .tmp 8), (1, .tmp 10)] rfl (some 11) rfl #[.string dn, .int .i64 AM] (by refine Eq.trans (congrArg (Tryz.prog.built 59) ?_) HCB.out; kernel_rfl) ?_)
    | (go_at_call 136; (with_reducible refine (rlist15M p ob s4 w5 HR4.out).mono ?_); rintro e w6 ⟨mv, ms, rfl, ht, hte, htn, hr, ho⟩; have HT6 := Lib.hid ht; have HME := Lib.hid hte; have HR5 := Lib.hid hr; have HO5 := Lib.hid (HO4.out.trans ho); have HG6 := Lib.hid ho.size; replace HQ := Lib.hid ((ho.block q (Array.getElem?_eq_some_iff.1 HQ.out).1 (by have := HLT.out; have := HQE.out; omega)).trans HQ.out); clear ht hte htn hr ho)
    | (go_at_call 138; (with_reducible refine (HD.out _ w6 HR5.out).mono ?_); rintro e w7 ⟨sv, rfl, hb, hn, hr, ho⟩; have HSB := Lib.hid hb; have HSN := Lib.hid hn; have HR6 := Lib.hid hr; have HO6 := Lib.hid (HO5.out.trans ho); have HG7 := Lib.hid ho.size; have HT7 := Lib.hid (LgO.only mgK HT6.out ho (by have := HLT.out; have := HS1.out; have := HG2.out; have := HG3.out; have := HG4.out; have := HG5.out; omega)); replace HQ := Lib.hid ((ho.block q (Array.getElem?_eq_some_iff.1 HQ.out).1 (by have := HLT.out; have := HQE.out; omega)).trans HQ.out); clear hb hn hr ho; obtain ⟨a1, c1, hmv, -⟩ := HT7.out.rows.len; obtain ⟨a2, c2, hsv, -⟩ := id HSB.out; obtain ⟨n1, hn1⟩ : ∃ n, n = ms.length := ⟨_, rfl⟩; obtain ⟨SG, hSG⟩ : ∃ n, n = dV15 (lstR mgR15 65536 s4) := ⟨_, rfl⟩; have HSG := Lib.hid hSG; rw [← hSG] at HSB hsv; obtain ⟨n2, hn2⟩ : ∃ n, n = SG.length := ⟨_, rfl⟩; rw [← hn1] at hmv; rw [← hn2] at hsv; subst hmv hsv; clear hn1 hn2 hSG; obtain ⟨CV, hCV⟩ : ∃ x : Array Value, x = #[.string ac, .int .i64 SQ, .string dn, .int .i64 AM, .slice a1 n1 c1, .slice a2 n2 c2] := ⟨_, rfl⟩; have HBU := Lib.hid ((tx_built ac dn SQ AM a1 a2 n1 n2 c1 c2).trans (congrArg some hCV.symm)); have HOC := Lib.hid (show CV.all (·.oneCell') = true from by rw [hCV]; simp [Value.oneCell']); have HZC := Lib.hid (show CV.size = 6 from by rw [hCV]; rfl); have HCV := Lib.hid hCV; clear hCV)
    | (refine wpList_buildTo rfl 67 #[(0, .tmp 4), (1, .tmp 6), (2, .tmp 11), (3, .tmp 13), (4, .tmp 15)] rfl (some 16) rfl CV (by refine Eq.trans (congrArg (Tryz.prog.built 67) ?_) HBU.out; kernel_rfl) ?_)
    | (refine wpList_store_row rfl 67 (.tmp 2) (.tmp 16) rfl q CV rfl rfl 67 _ HQ.out (by rw [HZC.out]; kernel_rfl) (by rw [HZC.out, HCZ.out]) HOC.out ?_))
  refine bodyPost_ret (results_cell_row rfl _ _ q 67 CV (0, 0) _ rfl (setRow_heap _ _ _ _ _ _ HQ.out) Tryz.underlying67 rfl (by rw [HZC.out]; kernel_rfl)) rfl ?_
  have hlt := HLT.out
  have hqe := HQE.out
  have hs1 := HS1.out
  have hg2 := HG2.out
  have hg3 := HG3.out
  have hg4 := HG4.out
  have hg5 := HG5.out
  have hg6 := HG6.out
  have hg7 := HG7.out
  have hpq : p ≠ q := by omega
  have hoq := only_setRow11 w7 q CV
  have hwq : w.heap.size ≤ q := by omega
  have hHO : Only p w (w7.setRow q CV) := HO6.out.behind hwq CV
  have o1 := LgO.only mgK HT7.out hoq (by omega)
  refine ⟨⟨ac, SQ, dn, AM, .slice a1 n1 c1, ms, .slice a2 n2 c2, SG⟩, (by first | (rw [HCV.out]; rfl) | rw [HCV.out]), ⟨o1.mono (by omega), HSB.out.only hoq (fun j hj => by have := HSN.out j hj; omega), fun j hj => by have := HSN.out j hj; have := hoq.size; omega⟩, ?_, (HR6.out.stay11 hoq hpq (fun hn k hk => ?_)).imp fun _ h => ?_, hHO⟩
  · have h1 := HME.out
    have h2 := HSG.out
    unfold pxP
    simp only
    rw [HV.out, h1, h2]
  · have := HOB.out (fun e => hn (by have := HEE.out e; rw [HRR.out] at this; exact this)) k hk
    omega
  · rw [HRR.out]; exact h
end Go.Proofs.YtllpnpeppdfjlaaGreatDoor
namespace Go.Proofs.YtllpnpeppdfjlaaGreatDoor
set_option linter.unusedVariables false
set_option linter.unusedSimpArgs false
open Go.RowKit
set_option maxRecDepth 100000
set_option linter.unusedSimpArgs false
set_option linter.unusedVariables false
def pxZ : Px := ⟨{ data := #[] }, 0, { data := #[] }, 0, [], []⟩
def trZ : Tr := ⟨{ data := #[] }, 0, { data := #[] }, 0, .slice none 0 0, [], .slice none 0 0, []⟩
theorem trZ_e (w : World) : TrE w trZ := ⟨rows_nil15 w, (fun m hm => by cases hm), nil_in w⟩
def decP (xs : List Int) : Px := if decOk xs then txV15 (xs, none) else pxZ
def decE (xs : List Int) : Option Nat := if decOk xs then none else some 3
theorem dec_no {xs : List Int} (h : decOk xs = false) : decP xs = pxZ ∧ decE xs = some 3 := by unfold decP decE; rw [h]; exact ⟨rfl, rfl⟩
theorem dec_yes {xs : List Int} (h : decOk xs = true) : decP xs = txV15 (xs, none) ∧ decE xs = none := by unfold decP decE; rw [h]; exact ⟨rfl, rfl⟩
theorem dec_long {xs : List Int} (h : 65536 < xs.length) : decOk xs = false := by unfold decOk; rw [decide_eq_false (by omega)]; rfl
theorem dec_done {xs : List Int} {e : Nat} (h : doneE (txR15 (xs, none)) = some e) : decOk xs = false := by unfold decOk; rw [h]; simp
theorem dec_chk {xs : List Int} {e : Nat} (h : chkX (txV15 (xs, none)) = some e) : decOk xs = false := by unfold decOk; rw [h]; simp
theorem dec_good {xs : List Int} (h : ¬ 65536 < xs.length) (h1 : doneE (txR15 (xs, none)) = none) (h2 : chkX (txV15 (xs, none)) = none) : decOk xs = true := by unfold decOk; rw [h1, h2, decide_eq_true (by omega)]; rfl
theorem partS_le (s : RSt) : (partS s 65536).1.length ≤ 65536 := by
  obtain ⟨ys, e⟩ := s
  cases e with
  | some x => exact Nat.zero_le _
  | none =>
    unfold partS
    simp only
    split
    · exact Nat.zero_le _
    · split
      · exact Nat.zero_le _
      · split
        · exact Nat.zero_le _
        · split
          · exact Nat.zero_le _
          · simp only [List.length_take]
            omega
theorem strOf_size (l : List Int) : (strOfNums l).size = l.length := by unfold strOfNums; simp [ByteArray.size]
theorem sV_le (s : RSt) : (sV15 s).size ≤ 65536 := by unfold sV15; rw [strOf_size]; exact partS_le s
/-- what Decode answers, in memory -/
def DecO (xs : List Int) (w : World) (e : Ending) (w' : World) : Prop := ∃ x : Tr, e = .returned (.tuple #[.agg (trC15 x), errV (decE xs)]) ∧ TrE w' x ∧ pxP x = decP xs ∧ Below w.heap.size w w'
theorem tx_blank : Tryz.prog.built 67 [] = some (trC15 trZ) := by kernel_rfl
set_option maxHeartbeats 8000000 in
theorem tdec_any (vb : Value) (xs : List Int) (w : World) (h : ShTab w) (hy : BytesIn w vb xs) (hok : bytesOk xs) (hl : xs.length ≤ 140737488355328) : Calls Tryz.prog 37 #[vb] w (DecO xs w) := by
  have HY0 := Lib.hid (fun o => hy.below (below_alloc w o))
  have HT0 := Lib.hid (fun o => h.below (below_alloc w o) h.lt)
  have HOK := Lib.hid hok
  have HL := Lib.hid hl
  have HBZ := Lib.hid tx_blank
  have HZE := Lib.hid trZ_e
  obtain ⟨CZ, hCZ⟩ : ∃ z, z = trC15 trZ := ⟨_, rfl⟩
  have HCZE := Lib.hid hCZ
  rw [← hCZ] at HBZ
  have HZS := Lib.hid (show CZ.size = 6 from by rw [hCZ]; rfl)
  have HZO := Lib.hid (show CZ.all (·.oneCell') = true from by rw [hCZ]; simp [trC15, trZ, Value.oneCell'])
  have HNO := Lib.hid (fun (hd : decOk xs = false) (w' : World) (hb : Below w.heap.size w w') => show DecO xs w (.returned (.tuple #[.agg CZ, errV (some 3)])) w' from ⟨trZ, by rw [hCZ, (dec_no hd).2], trZ_e w', by rw [(dec_no hd).1]; rfl, hb⟩)
  have HYES := Lib.hid (fun (x : Tr) (hd : decOk xs = true) (hx : pxP x = txV15 (xs, none)) (w' : World) (he : TrE w' x) (hb : Below w.heap.size w w') => show DecO xs w (.returned (.tuple #[.agg (trC15 x), errV none])) w' from ⟨x, by rw [(dec_yes hd).2], he, by rw [(dec_yes hd).1]; exact hx, hb⟩)
  have D1 := Lib.hid (dec_long (xs := xs))
  have D2 := Lib.hid (fun e => dec_done (xs := xs) (e := e))
  have D3 := Lib.hid (fun e => dec_chk (xs := xs) (e := e))
  have D4 := Lib.hid (dec_good (xs := xs))
  obtain ⟨va, vc, rfl, -⟩ := id hy
  obtain ⟨n, hn⟩ : ∃ z, z = xs.length := ⟨_, rfl⟩
  have HN := Lib.hid hn
  rw [← hn] at HY0 D1 D4 ⊢
  have hnI : (n : Int) ≤ 9223372036854775807 := by omega
  clear h hy hok hl hCZ hn
  generalize DecO xs w = PO at *
  go_enter Tryz.func37, Tryz.ntmps37
  go_upto_region 1 with (fail)
  generalize hA : World.alloc w _ = w1
  obtain ⟨cz, hcz, hq⟩ : ∃ cz : Array Value, cz.size = 6 ∧ w1.heap[w.heap.size]? = some (.cells cz 67 (0, 0)) := ⟨_, by kernel_rfl, by rw [← hA]; exact heap_alloc_new _ _⟩
  have HCZ := Lib.hid hcz
  have HQ := Lib.hid hq
  have HY := Lib.hid (show BytesIn w1 (.slice va n vc) xs from by rw [← hA]; exact HY0.out _)
  have HT := Lib.hid (show ShTab w1 from by rw [← hA]; exact HT0.out _)
  have HB1 := Lib.hid (show Below w.heap.size w w1 from by rw [← hA]; exact below_alloc _ _)
  have HS1 := Lib.hid (show w1.heap.size = w.heap.size + 1 from by rw [← hA]; simp)
  clear hA hcz hq HY0 HT0
  obtain ⟨q, hqe⟩ : ∃ q, q = w.heap.size := ⟨_, rfl⟩
  have HQE := Lib.hid hqe
  rw [← hqe] at HQ ⊢
  clear hqe
  by_cases h6 : 65536 < n
  · have h6I : (65536 : Int) < (n : Int) := by omega
    have HE := Lib.hid (D1.out h6)
    go_wp2_with (first
      | (refine wpList_buildTo rfl 67 #[] rfl (some 9) rfl CZ (by refine Eq.trans (congrArg (Tryz.prog.built 67) ?_) HBZ.out; kernel_rfl) ?_)
      | (refine wpList_store_row rfl 67 (.tmp 2) (.tmp 9) rfl q CZ rfl rfl 67 _ HQ.out (by rw [HZS.out]; kernel_rfl) (by rw [HZS.out, HCZ.out]) HZO.out ?_))
    refine bodyPost_ret (results_cell_tmp_row rfl _ _ q 67 CZ (0, 0) _ rfl (setRow_heap _ _ _ _ _ _ HQ.out) Tryz.underlying67 rfl (by rw [HZS.out]; kernel_rfl)) rfl ?_
    exact HNO.out HE.out _ (below_setRow HB1.out (by rw [HQE.out]; exact Nat.le_refl _) _)
  · have h6I : ¬ (65536 : Int) < (n : Int) := by omega
    clear D1
    go_upto_region 4 with (go_at_call 81; (with_reducible refine (read_any (.slice va n vc) xs w1 HY.out HOK.out HL.out).mono ?_); rintro e w2 ⟨g, y, rfl, hg, hra, hb⟩; have HG := Lib.hid hg; have HR := Lib.hid (show RO w2 g y.ownBlock (xs, none) from ⟨y, hra, rfl⟩); have HB2 := Lib.hid hb; replace HQ := Lib.hid ((hb.block q (Array.getElem?_eq_some_iff.1 HQ.out).1).trans HQ.out); clear hg hra hb)
    obtain ⟨ob, hob⟩ : ∃ ob, ob = y.ownBlock := ⟨_, rfl⟩
    rw [← hob] at HR
    clear hob
    go_upto_region 5 with (first
      | (go_at_call 82; (with_reducible refine (rtx15_any g ob _ w2 HR.out).mono ?_); rintro e w3 ⟨x, rfl, hxo, hxp, hr, ho⟩; have HX := Lib.hid hxo; have HXP := Lib.hid hxp; have HR3 := Lib.hid hr; have HO3 := Lib.hid ho; replace HQ := Lib.hid ((ho.block q (Array.getElem?_eq_some_iff.1 HQ.out).1 (by have := HG.out; have := HS1.out; have := HQE.out; omega)).trans HQ.out); have HXV := Lib.hid hxo.e.v; obtain ⟨CV, hCV⟩ : ∃ c, c = trC15 x := ⟨_, rfl⟩; have HCV := Lib.hid hCV; have HCS := Lib.hid (show CV.size = 6 from by rw [hCV]; rfl); have HCO := Lib.hid (show CV.all (·.oneCell') = true from by rw [hCV]; exact trC15_one HXV.out); rw [← hCV]; clear hCV hxo hxp hr ho)
      | (refine wpList_store_row rfl 67 (.tmp 5) (.tmp 14) rfl w3.heap.size CV rfl rfl 67 _ (heap_alloc_new _ _) (by rw [HCS.out]; kernel_rfl) (by rw [HCS.out]; rfl) HCO.out ?_; rw [World.setRow_alloc_new]))
    have HQ5 := Lib.hid (heap_alloc_new w3 (.cells CV 67))
    have HB4 := Lib.hid (below_alloc w3 (.cells CV 67))
    have h12 : Below w1.heap.size w1 w3 := HB2.out.trans (HO3.out.below HG.out HB2.out.size)
    have h14 : Below w.heap.size w (w3.alloc (.cells CV 67)) := HB1.out.trans ((h12.mono HB1.out.size).trans (HB4.out.mono (Nat.le_trans HB1.out.size h12.size)))
    have HW4 := Lib.hid h14
    have HT4 := Lib.hid (HT.out.below (h12.trans (HB4.out.mono h12.size)) HT.out.lt)
    have HX4 := Lib.hid (HX.out.below HB4.out)
    have HQN := Lib.hid (show q < w2.heap.size from by have := HB2.out.size; have := HQE.out; have := HS1.out; omega)
    have HQ4 := Lib.hid ((HB4.out.block q (Array.getElem?_eq_some_iff.1 HQ.out).1).trans HQ.out)
    have HE := Lib.hid (show Calls Tryz.prog 83 #[.pointer (some ⟨g, 0, none⟩)] (w3.alloc (.cells CV 67)) fun r w' => r = .returned (errV (doneE (txR15 (xs, none)))) ∧ w' = (w3.alloc (.cells CV 67)) from rdone_any g _ _ (HR3.out.below11 HB4.out).rs)
    have HCK := Lib.hid (show ∀ w, ShTab w → TrE w x → Calls Tryz.prog 32 #[.agg CV] w fun e w' => e = .returned (errV (chkX (txV15 (xs, none)))) ∧ Below w.heap.size w w' from fun w h he => by
      have hk := tcheck_any x w h he (by have := congrArg Px.acc HXP.out; show x.acc.size ≤ _; rw [show x.acc = sV15 (xs, none) from this]; have := sV_le (xs, none); omega) (by have := congrArg Px.den HXP.out; show x.den.size ≤ _; rw [show x.den = sV15 _ from this]; have := sV_le (iR15 (pR15 (xs, none))); omega)
      rw [HXP.out, ← HCV.out] at hk
      exact hk)
    clear h12 h14 HB1 HB2 HB4 HO3 HR HR3 HT HY HX
    obtain ⟨g5, hg5⟩ : ∃ z, z = w3.heap.size := ⟨_, rfl⟩
    rw [← hg5] at HQ5 ⊢
    clear hg5
    generalize w3.alloc (.cells CV 67) = w4 at *
    obtain ⟨DE, hDE⟩ : ∃ z, z = doneE (txR15 (xs, none)) := ⟨_, rfl⟩
    obtain ⟨CE, hCE⟩ : ∃ z, z = chkX (txV15 (xs, none)) := ⟨_, rfl⟩
    rw [← hDE] at HE D2 D4
    rw [← hCE] at HCK D3 D4
    clear hDE hCE
    cases DE with
    | some e1 =>
      have HF := Lib.hid (D2.out e1 rfl)
      simp only [errV] at HE
      clear D2 D3 D4 HCK
      go_wp2_with (first
        | (go_at_call 83; (with_reducible refine HE.out.mono ?_); rintro e w5 ⟨rfl, rfl⟩)
        | (refine wpList_buildTo rfl 67 #[] rfl (some 23) rfl CZ (by refine Eq.trans (congrArg (Tryz.prog.built 67) ?_) HBZ.out; kernel_rfl) ?_)
        | (refine wpList_store_row rfl 67 (.tmp 2) (.tmp 23) rfl q CZ rfl rfl 67 _ HQ4.out (by rw [HZS.out]; kernel_rfl) (by rw [HZS.out, HCZ.out]) HZO.out ?_))
      refine bodyPost_ret (results_cell_tmp_row rfl _ _ q 67 CZ (0, 0) _ rfl (setRow_heap _ _ _ _ _ _ HQ4.out) Tryz.underlying67 rfl (by rw [HZS.out]; kernel_rfl)) rfl ?_
      exact HNO.out HF.out _ (below_setRow HW4.out (by rw [HQE.out]; exact Nat.le_refl _) _)
    | none =>
      simp only [errV] at HE
      clear D2
      cases CE with
      | some e2 =>
        have HF := Lib.hid (D3.out e2 rfl)
        simp only [errV] at HCK
        clear D3 D4
        go_wp2_with (first
          | (go_at_call 83; (with_reducible refine HE.out.mono ?_); rintro e w5 ⟨rfl, rfl⟩)
          | (refine wpList_load_rowT (by rfl) 67 (.tmp 5) rfl g5 0 rfl CV _ (rowT_range HQ5.out) Tryz.underlying67 rfl (by rw [HCS.out]; kernel_rfl) ?_)
          | (go_at_call 32; (with_reducible refine (HCK.out _ HT4.out HX4.out.e).mono ?_); rintro e w6 ⟨rfl, hb⟩; replace HQ4 := Lib.hid ((hb.block q (Array.getElem?_eq_some_iff.1 HQ4.out).1).trans HQ4.out); have HW6 := Lib.hid (HW4.out.trans (hb.mono HW4.out.size)); clear hb)
          | (refine wpList_buildTo rfl 67 #[] rfl (some 23) rfl CZ (by refine Eq.trans (congrArg (Tryz.prog.built 67) ?_) HBZ.out; kernel_rfl) ?_)
          | (refine wpList_store_row rfl 67 (.tmp 2) (.tmp 23) rfl q CZ rfl rfl 67 _ HQ4.out (by rw [HZS.out]; kernel_rfl) (by rw [HZS.out, HCZ.out]) HZO.out ?_))
        refine bodyPost_ret (results_cell_tmp_row rfl _ _ q 67 CZ (0, 0) _ rfl (setRow_heap _ _ _ _ _ _ HQ4.out) Tryz.underlying67 rfl (by rw [HZS.out]; kernel_rfl)) rfl ?_
        exact HNO.out HF.out _ (below_setRow HW6.out (by rw [HQE.out]; exact Nat.le_refl _) _)
      | none =>
        have HF := Lib.hid (D4.out h6 (by trivial) (by trivial))
        simp only [errV] at HCK
        clear D3 D4
        go_wp2_with (first
          | (go_at_call 83; (with_reducible refine HE.out.mono ?_); rintro e w5 ⟨rfl, rfl⟩)
          | (refine wpList_load_rowT (by rfl) 67 (.tmp 5) rfl g5 0 rfl CV _ (rowT_range HQ5.out) Tryz.underlying67 rfl (by rw [HCS.out]; kernel_rfl) ?_)
          | (go_at_call 32; (with_reducible refine (HCK.out _ HT4.out HX4.out.e).mono ?_); rintro e w6 ⟨rfl, hb⟩; replace HQ4 := Lib.hid ((hb.block q (Array.getElem?_eq_some_iff.1 HQ4.out).1).trans HQ4.out); replace HQ5 := Lib.hid ((hb.block g5 (Array.getElem?_eq_some_iff.1 HQ5.out).1).trans HQ5.out); have HW6 := Lib.hid (HW4.out.trans (hb.mono HW4.out.size)); replace HX4 := Lib.hid (HX4.out.below hb); clear hb)
          | (refine wpList_store_row rfl 67 (.tmp 2) (.tmp 25) rfl q CV rfl rfl 67 _ HQ4.out (by rw [HCS.out]; kernel_rfl) (by rw [HCS.out, HCZ.out]) HCO.out ?_))
        refine bodyPost_ret (results_cell_tmp_row rfl _ _ q 67 CV (0, 0) _ rfl (setRow_heap _ _ _ _ _ _ HQ4.out) Tryz.underlying67 rfl (by rw [HCS.out]; kernel_rfl)) rfl ?_
        have h := HYES.out x HF.out HXP.out (w6.setRow q CV)
        rw [← HCV.out] at h
        exact h (HX4.out.only (only_setRow11 w6 q CV) HQN.out).e (below_setRow HW6.out (by rw [HQE.out]; exact Nat.le_refl _) _)
end Go.Proofs.YtllpnpeppdfjlaaGreatDoor
namespace Go.Proofs.YtllpnpeppdfjlaaGreatDoor
set_option linter.unusedVariables false
set_option linter.unusedSimpArgs false
open Go.RowKit
set_option maxRecDepth 100000
set_option linter.unusedSimpArgs false
set_option linter.unusedVariables false
theorem i0_15 : i64b 0 := ⟨by decide, by decide⟩
theorem i1_15 : i64b 1 := ⟨by decide, by decide⟩
def bobS : ByteArray := { data := #[98, 111, 98] }
def atomS : ByteArray := { data := #[97, 116, 111, 109] }
def annS : ByteArray := { data := #[97, 110, 110] }
def pxPl : Px := ⟨annS, 0, atomS, 0, [⟨1, [bobS, atomS], [1], []⟩], []⟩
theorem pl_enc : encE pxPl = none := by kernel_rfl
theorem pl_encL : encL pxPl = pxB pxPl := by unfold encL; rw [pl_enc]; rfl
theorem pl_fl : PxFl pxPl := ⟨⟨by decide, by decide⟩, ⟨by decide, by decide⟩, fun m hm => by
  rw [List.mem_singleton.1 hm]
  exact ⟨⟨by decide, by decide⟩, fun i hi => by rw [List.mem_singleton.1 hi]; exact ⟨by decide, by decide⟩⟩⟩
theorem pl_dec : decOk (pxB pxPl) = true ∧ txV15 (pxB pxPl, none) = pxPl := dec_enc pxPl pl_fl pl_enc
theorem pl_ok : bytesOk (pxB pxPl) := fun x hx => by
  have h : (pxB pxPl).all (fun x => decide (0 ≤ x) && decide (x < 256)) = true := by kernel_rfl
  have := List.all_eq_true.1 h x hx
  simpa using this
theorem pl_len : (pxB pxPl).length ≤ 100 := of_decide_eq_true (by kernel_rfl)
theorem info15SS : (Tryz.prog.info? 9).map (fun i => (i.zero, i.size, i.bytes)) = some (some (.string { data := #[] }), 1, 16) := by kernel_rfl
theorem fill_ss : Instr.fill (fun i => some (i * 1, 1)) ((Array.range (2 * 1)).map ((Value.string { data := #[] }).cells[· % (Value.string { data := #[] }).cells.size]!)) [(0, .string bobS), (1, .string atomS)] = some #[.string bobS, .string atomS] := by kernel_rfl
theorem wpList_ss2 {w : World} {ops : Array Oper} {rest : List Oper} {o : Oper} {a : Act} {Q : Exit → Act → World → Prop} (hgd : o.guard = none) (ho : o.op = .buildSlice 51 2 #[(0, .const (.string bobS)), (1, .const (.string atomS))]) (d : Option Tmp) (hd : o.dst = d)
    (h : wpList Tryz.prog ops Q rest (a.put d (.slice (some ⟨w.heap.size, 0, none⟩) 2 2)) (w.alloc (.cells #[.string bobS, .string atomS] 9))) : wpList Tryz.prog ops Q (o :: rest) a w := by
  subst hd
  refine wpList_plain hgd fun K hK => ?_
  obtain ⟨i0, hi, hz0, hz1, hz2⟩ := info_parts info15SS
  refine wp_buildSlice 51 9 2 _ ho #[.string bobS, .string atomS] i0 _ Tryz.underlying51 hi hz0 (by rw [hz1]; decide) (by rw [hz1]; decide) ?_ (hK _ _ h)
  rw [hz1]
  simpa [Act.eval] using fill_ss
theorem wpList_is1 {w : World} {ops : Array Oper} {rest : List Oper} {o : Oper} {a : Act} {Q : Exit → Act → World → Prop} (hgd : o.guard = none) (ho : o.op = .buildSlice 35 1 #[(0, .const (.int .i64 1))]) (d : Option Tmp) (hd : o.dst = d)
    (h : wpList Tryz.prog ops Q rest (a.put d (.slice (some ⟨w.heap.size, 0, none⟩) 1 1)) (w.alloc (.cells #[.int .i64 1] 3))) : wpList Tryz.prog ops Q (o :: rest) a w := by
  subst hd
  refine wpList_plain hgd fun K hK => ?_
  obtain ⟨i0, hi, hz0, hz1, hz2⟩ := info_parts info15I
  refine wp_buildSlice 35 3 1 _ ho #[.int .i64 1] i0 _ Tryz.underlying35 hi hz0 (by rw [hz1]; decide) (by rw [hz1]; decide) ?_ (hK _ _ h)
  rw [hz1]
  simpa [Act.eval] using fill15I 1 trivial
theorem rows_new15 {α : Type} {n : Nat} {C : α → List Value} (w : World) (T : TypeId) (l : List α) (cs : Array Value) (h : ∀ i x, l[i]? = some x → ∀ j u, (C x)[j]? = some u → cs[i * n + j]? = some u) (hm : l.length ≤ maxLen) : RowsIn n C (w.alloc (.cells cs T)) (.slice (some ⟨w.heap.size, 0, none⟩) l.length l.length) l := by
  refine ⟨_, _, rfl, Nat.le_refl _, hm, .inr ⟨_, 0, rfl, by simp, fun i x hi j u hu => ?_⟩⟩
  rw [Nat.zero_add, cell_of_row _ _ _ _ _ _ (heap_alloc_new w _)]
  exact h i x hi j u hu
theorem pmsg_built (a1 a2 : Addr) : Tryz.prog.built 100 [(0, .int .i64 1), (1, .slice (some a1) 2 2), (2, .slice (some a2) 1 1)] = some #[.int .i64 1, .slice (some a1) 2 2, .slice (some a2) 1 1, .slice none 0 0] := by kernel_rfl
theorem pcn_built : Tryz.prog.built 59 [(0, .string atomS)] = some #[.string atomS, .int .i64 0] := by kernel_rfl
theorem ptx_built (a1 : Addr) : Tryz.prog.built 67 [(0, .string annS), (2, .agg #[.string atomS, .int .i64 0]), (3, .slice (some a1) 1 1)] = some #[.string annS, .int .i64 0, .string atomS, .int .i64 0, .slice (some a1) 1 1, .slice none 0 0] := by kernel_rfl
set_option maxHeartbeats 4000000 in
theorem lplain_any (w : World) : Calls Tryz.prog 48 #[] w fun e w' => ∃ x : Tr, e = .returned (.agg (trC15 x)) ∧ TrE w' x ∧ pxP x = pxPl ∧ TrFl x ∧ Below w.heap.size w w' := by
  go_enter Tryz.func48, Tryz.ntmps48
  go_upto_region 1 with (fail)
  generalize hA : World.alloc w _ = w1
  obtain ⟨cz, hcz, hq⟩ : ∃ cz : Array Value, cz.size = 6 ∧ w1.heap[w.heap.size]? = some (.cells cz 67 (0, 0)) := ⟨_, by kernel_rfl, by rw [← hA]; exact heap_alloc_new _ _⟩
  have HCZ := Lib.hid hcz
  have HQ := Lib.hid hq
  have HB1 := Lib.hid (show Below w.heap.size w w1 from by rw [← hA]; exact below_alloc _ _)
  have HS1 := Lib.hid (show w1.heap.size = w.heap.size + 1 from by rw [← hA]; simp)
  clear hA hcz hq
  obtain ⟨q, hqe⟩ : ∃ q, q = w.heap.size := ⟨_, rfl⟩
  have HQE := Lib.hid hqe
  rw [← hqe] at HQ ⊢
  clear hqe
  have HCB := Lib.hid pcn_built
  go_wp2_with (first
    | (refine wpList_buildTo rfl 59 #[(0, .const (.string { data := #[97, 116, 111, 109] }))] rfl (some 1) rfl #[.string atomS, .int .i64 0] (by refine Eq.trans (congrArg (Tryz.prog.built 59) ?_) HCB.out; kernel_rfl) ?_)
    | (refine wpList_ss2 rfl rfl (some 2) rfl ?_; have HS := Lib.hid (show StIn (w1.alloc (.cells #[.string bobS, .string atomS] 9)) (.slice (some ⟨w1.heap.size, 0, none⟩) 2 2) [bobS, atomS] from rows_new15 w1 9 [bobS, atomS] _ (fun i x hi j u hu => by match i, j, hi, hu with | 0, 0, hi, hu => cases hi; cases hu; rfl | 1, 0, hi, hu => cases hi; cases hu; rfl) (by unfold maxLen; decide)); have hb := below_alloc w1 (.cells #[.string bobS, .string atomS] 9); have HB2 := Lib.hid (HB1.out.trans (hb.mono HB1.out.size)); replace HQ := Lib.hid ((hb.block q (bkT_lt HQ.out)).trans HQ.out); clear hb; obtain ⟨g1, hg1⟩ : ∃ g, g = w1.heap.size := ⟨_, rfl⟩; have HG1 := Lib.hid (show q < g1 from by rw [hg1]; have := HS1.out; have := HQE.out; omega); rw [← hg1] at HS ⊢; clear hg1; generalize w1.alloc (.cells #[.string bobS, .string atomS] 9) = w2 at *)
    | (refine wpList_is1 rfl rfl (some 3) rfl ?_; have hql := bkT_lt HQ.out; have HI := Lib.hid (show ItIn (w2.alloc (.cells #[.int .i64 1] 3)) (.slice (some ⟨w2.heap.size, 0, none⟩) 1 1) [1] from rows_new15 w2 3 [(1 : Int)] _ (fun i x hi j u hu => by match i, j, hi, hu with | 0, 0, hi, hu => cases hi; cases hu; rfl) (by unfold maxLen; decide)); have hb := below_alloc w2 (.cells #[.int .i64 1] 3); have HB3 := Lib.hid (HB2.out.trans (hb.mono HB2.out.size)); replace HQ := Lib.hid ((hb.block q hql).trans HQ.out); replace HS := Lib.hid (HS.out.below hb); clear hb; obtain ⟨g2, hg2⟩ : ∃ g, g = w2.heap.size := ⟨_, rfl⟩; rw [← hg2] at HI ⊢; have HG2 := Lib.hid (show q < g2 from by rw [hg2]; exact hql); clear hg2 hql; generalize w2.alloc (.cells #[.int .i64 1] 3) = w3 at *; have HMB := Lib.hid (pmsg_built ⟨g1, 0, none⟩ ⟨g2, 0, none⟩); obtain ⟨x, hx⟩ : ∃ x : Mg, x = ⟨1, .slice (some ⟨g1, 0, none⟩) 2 2, [bobS, atomS], .slice (some ⟨g2, 0, none⟩) 1 1, [1], .slice none 0 0, []⟩ := ⟨_, rfl⟩; have HX := Lib.hid hx; have HOK := Lib.hid (show MgV x from by rw [hx]; exact ⟨⟨_, _, rfl⟩, ⟨_, _, rfl⟩, ⟨_, _, rfl⟩⟩); obtain ⟨MV, hMV⟩ : ∃ z, z = mgC x := ⟨_, rfl⟩; have HMV := Lib.hid hMV; have hms : MV.size = 4 := (congrArg Array.size hMV).trans rfl; replace HMB := Lib.hid (HMB.out.trans (congrArg some (show _ = MV from by rw [hMV, hx]; rfl))); clear hx hMV)
    | (refine wpList_buildTo rfl 100 #[(0, .const (.int .i64 1)), (1, .tmp 2), (2, .tmp 3)] rfl (some 4) rfl MV (by refine Eq.trans (congrArg (Tryz.prog.built 100) ?_) HMB.out; kernel_rfl) ?_; refine wpList_one15M rfl (.tmp 4) rfl (some 5) rfl x HOK.out (.agg MV) (by rw [HMV.out]) rfl ?_; go_loud ( have hql := bkT_lt HQ.out; have HM := Lib.hid (show MgIn (w3.alloc (.cells (mgL x).toArray 100)) (.slice (some ⟨w3.heap.size, 0, none⟩) 1 1) [x] from rows_new15 w3 100 [x] _ (fun i y hi j u hu => by match i, hi with | 0, hi => cases hi; simpa using hu) (by unfold maxLen; simp)); have hb := below_alloc w3 (.cells (mgL x).toArray 100); have HB4 := Lib.hid (HB3.out.trans (hb.mono HB3.out.size)); replace HQ := Lib.hid ((hb.block q hql).trans HQ.out); replace HS := Lib.hid (HS.out.below hb); replace HI := Lib.hid (HI.out.below hb); clear hb; obtain ⟨g3, hg3⟩ : ∃ g, g = w3.heap.size := ⟨_, rfl⟩; rw [← hg3] at HM ⊢; have HG3 := Lib.hid (show q < g3 from by rw [hg3]; exact hql); clear hg3 hql; generalize w3.alloc (.cells (mgL x).toArray 100) = w4 at *; obtain ⟨CV, hCV⟩ : ∃ z : Array Value, z = #[.string annS, .int .i64 0, .string atomS, .int .i64 0, .slice (some ⟨g3, 0, none⟩) 1 1, .slice none 0 0] := ⟨_, rfl⟩; have HTB := Lib.hid ((ptx_built ⟨g3, 0, none⟩).trans (congrArg some hCV.symm)); have HOC := Lib.hid (show CV.all (·.oneCell') = true from by rw [hCV]; simp [Value.oneCell']); have HZC := Lib.hid (show CV.size = 6 from by rw [hCV]; rfl); have HCV := Lib.hid hCV; clear hCV))
    | (refine wpList_buildTo rfl 67 #[(0, .const (.string { data := #[97, 110, 110] })), (2, .tmp 1), (3, .tmp 5)] rfl (some 6) rfl CV (by refine Eq.trans (congrArg (Tryz.prog.built 67) ?_) HTB.out; kernel_rfl) ?_)
    | (refine wpList_store_row rfl 67 (.tmp 0) (.tmp 6) rfl q CV rfl rfl 67 _ HQ.out (by rw [HZC.out]; kernel_rfl) (by rw [HZC.out, HCZ.out]) HOC.out ?_))
  refine bodyPost_ret (results_cell_row rfl _ _ q 67 CV (0, 0) _ rfl (setRow_heap _ _ _ _ _ _ HQ.out) Tryz.underlying67 rfl (by rw [HZC.out]; kernel_rfl)) rfl ?_
  have hoq := only_setRow11 w4 q CV
  have hg1 := HG1.out
  have hg2 := HG2.out
  have hg3 := HG3.out
  have ne : ∀ g, q < g → ∀ k, (Value.slice (some ⟨g, 0, none⟩) 1 1).ownBlock = some k → k ≠ q := fun g hg k hk => by simp [Value.ownBlock] at hk; omega
  have ne2 : ∀ g, q < g → ∀ k, (Value.slice (some ⟨g, 0, none⟩) 2 2).ownBlock = some k → k ≠ q := fun g hg k hk => by simp [Value.ownBlock] at hk; omega
  refine ⟨⟨annS, 0, atomS, 0, .slice (some ⟨g3, 0, none⟩) 1 1, [x], .slice none 0 0, []⟩, (by first | (rw [HCV.out]; rfl) | rw [HCV.out]), ⟨HM.out.only hoq (ne g3 hg3), fun m hm => ?_, nil_in _⟩, ?_, ⟨i0_15, i0_15, fun m hm => ?_⟩, below_setRow HB4.out (by rw [HQE.out]; exact Nat.le_refl _) _⟩
  · rw [List.mem_singleton.1 hm, HX.out]
    exact ⟨HS.out.only hoq (ne2 g1 hg1), HI.out.only hoq (ne g2 hg2), rows_nil15 _, fun t ht => by cases ht⟩
  · unfold pxP
    simp only [List.map_cons, List.map_nil]
    rw [HX.out]; rfl
  · rw [List.mem_singleton.1 hm, HX.out]
    exact ⟨i1_15, fun i hi => by rw [List.mem_singleton.1 hi]; exact i1_15⟩
end Go.Proofs.YtllpnpeppdfjlaaGreatDoor
namespace Go.Proofs.YtllpnpeppdfjlaaGreatDoor
set_option linter.unusedVariables false
set_option linter.unusedSimpArgs false
open Go.RowKit
set_option maxRecDepth 100000
set_option linter.unusedSimpArgs false
set_option linter.unusedVariables false
theorem pl_of {x : Tr} (h : pxP x = pxPl) : x.acc = annS ∧ x.den = atomS ∧ x.seq = 0 ∧ x.amt = 0 ∧ ∃ m, x.ms = [m] ∧ m.kind = 1 ∧ m.is.length = 1 := by
  have h1 := congrArg Px.acc h
  have h2 := congrArg Px.den h
  have h3 := congrArg Px.seq h
  have h4 := congrArg Px.amt h
  have h5 := congrArg Px.ms h
  refine ⟨h1, h2, h3, h4, ?_⟩
  have h6 : x.ms.map mgP = [⟨1, [bobS, atomS], [1], []⟩] := h5
  match hm : x.ms, h6 with
  | [], h6 => cases h6
  | a :: b :: r, h6 => simp at h6
  | [m], h6 =>
    simp only [List.map_cons, List.map_nil, List.cons.injEq, and_true] at h6
    have h7 := congrArg Pm.kind h6
    have h8 := congrArg Pm.is h6
    exact ⟨m, rfl, h7, by show m.is.length = 1; rw [show m.is = [1] from h8]; rfl⟩
set_option maxHeartbeats 8000000 in
theorem lxsure_any (w : World) (h : ShTab w) : Calls Tryz.prog 36 #[] w fun e w' => e = .returned (.bool true) ∧ Below w.heap.size w w' := by
  have HT := Lib.hid h
  have HEN := Lib.hid (show ∀ (x : Tr) (w : World), ShTab w → TrE w x → pxP x = pxPl → TrFl x → Calls Tryz.prog 28 #[.agg (trC15 x)] w fun e w' => ∃ vb, e = .returned (.tuple #[vb, .nilIface]) ∧ BytesIn w' vb (pxB pxPl) ∧ Below w.heap.size w w' from fun x w h he hp hf => by
    obtain ⟨p1, p2, -⟩ := pl_of hp
    have := tenc_any x w h he hf (by rw [p1]; decide) (by rw [p2]; decide) (by rw [trB_P, hp]; have := pl_len; omega)
    rw [hp, pl_enc, pl_encL] at this
    exact this)
  have HDE := Lib.hid (show ∀ (vb : Value) (w : World), ShTab w → BytesIn w vb (pxB pxPl) → Calls Tryz.prog 37 #[vb] w fun e w' => ∃ x : Tr, e = .returned (.tuple #[.agg (trC15 x), .nilIface]) ∧ TrE w' x ∧ pxP x = pxPl ∧ Below w.heap.size w w' from fun vb w h hy => by
    have := tdec_any vb (pxB pxPl) w h hy pl_ok (by have := pl_len; omega)
    unfold DecO at this
    rw [(dec_yes pl_dec.1).1, (dec_yes pl_dec.1).2, pl_dec.2] at this
    exact this)
  clear h
  go_enter Tryz.func36, Tryz.ntmps36
  go_upto_region 3 with (first
    | (go_at_call 48; (with_reducible refine (lplain_any w).mono ?_); rintro e w1 ⟨x, rfl, he, hp, hf, hb⟩; have HX := Lib.hid he; have HP := Lib.hid hp; have HF := Lib.hid hf; have HB := Lib.hid hb; clear he hp hf hb)
    | (go_at_call 28; (with_reducible refine (HEN.out x w1 (HT.out.below HB.out HT.out.lt) HX.out HP.out HF.out).mono ?_); rintro e w2 ⟨vb, rfl, hy, hb⟩; have HY := Lib.hid hy; have HB2 := Lib.hid (HB.out.trans (hb.mono HB.out.size)); clear hy hb)
    | (go_at_call 37; (with_reducible refine (HDE.out vb w2 (HT.out.below HB2.out HT.out.lt) HY.out).mono ?_); rintro e w3 ⟨y, rfl, he, hp, hb⟩; have HE := Lib.hid he; have HP2 := Lib.hid hp; have HB3 := Lib.hid (HB2.out.trans (hb.mono HB2.out.size)); have HV := Lib.hid he.v; obtain ⟨CV, hCV⟩ : ∃ c, c = trC15 y := ⟨_, rfl⟩; have HCV := Lib.hid hCV; have HCS := Lib.hid (show CV.size = 6 from by rw [hCV]; rfl); have HCO := Lib.hid (show CV.all (·.oneCell') = true from by rw [hCV]; exact trC15_one HV.out); rw [← hCV]; clear hCV he hp hb)
    | (refine wpList_store_row rfl 67 (.tmp 3) (.tmp 13) rfl w3.heap.size CV rfl rfl 67 _ (heap_alloc_new _ _) (by rw [HCS.out]; kernel_rfl) (by rw [HCS.out]; rfl) HCO.out ?_; rw [World.setRow_alloc_new]))
  have hq := heap_alloc_new w3 (.cells CV 67)
  have hb := below_alloc w3 (.cells CV 67)
  have HB4 := Lib.hid (HB3.out.trans (hb.mono HB3.out.size))
  have hE := HE.out.below hb
  obtain ⟨p1, p2, p3, p4, m, hm, hk, hi⟩ := pl_of HP2.out
  obtain ⟨⟨a1, c1, e1⟩, ⟨a2, c2, e2⟩⟩ := HV.out
  have hin := hE.m
  have hme := hE.e m (by rw [hm]; simp)
  obtain ⟨⟨_, _, et⟩, ⟨ai, ci, ei⟩, ⟨_, _, ed⟩⟩ := hme.v
  rw [e1, hm] at hin
  rw [hm] at e1
  obtain ⟨ab, ao, rfl, hab, hra⟩ := RowsIn.at hin (i := 0) (s := m) rfl
  have hCe : CV = #[.string annS, .int .i64 0, .string atomS, .int .i64 0, .slice (some ⟨ab, ao, none⟩) 1 c1, y.sv] := by rw [HCV.out]; unfold trC15; rw [p1, p2, p3, p4, e1]; rfl
  rw [hCe] at hq
  obtain ⟨k0, -, -, -, -, k4, -⟩ := tx_cells hq
  rw [← hCe] at k0 k4
  have k5 := hra 0 _ rfl
  have k6 := hra 2 _ rfl
  rw [hk] at k5
  rw [ei, hi] at k6
  simp only [Nat.zero_mul, Nat.add_zero] at k5 k6
  clear hq hb hE hin hme hra e1 e2 et ei ed hm hk hi p1 p2 p3 p4 hCe
  obtain ⟨g3, hg3⟩ : ∃ z, z = w3.heap.size := ⟨_, rfl⟩
  rw [← hg3] at k0 k4 ⊢
  clear hg3
  generalize w3.alloc (.cells CV 67) = w4 at *
  have ks : annS.toList = [97, 110, 110] := by rw [ByteArray.toList_eq]; rfl
  go_wp2_with (fail)
  go_ret
  exact ⟨rfl, HB4.out⟩
end Go.Proofs.YtllpnpeppdfjlaaGreatDoor

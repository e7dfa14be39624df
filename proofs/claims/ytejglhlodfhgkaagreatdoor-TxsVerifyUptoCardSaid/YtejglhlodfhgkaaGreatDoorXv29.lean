/- Part 29 of the proof. -/
import Derived.Test.YtejglhlodfhgkaaGreatDoorXv26
namespace Go.Proofs.YtejglhlodfhgkaaGreatDoor
set_option linter.unusedVariables false
set_option linter.unusedSimpArgs false
open Go.RowKit
set_option maxRecDepth 100000
set_option linter.unusedSimpArgs false
set_option linter.unusedVariables false
def encL (x : Px) : List Int := if (encE x).isNone then pxB x else []
theorem encE_chk {x : Px} {e : Nat} (h : chkX x = some e) : encE x = some e ∧ encL x = [] := by
  have : encE x = some e := by unfold encE; rw [h]
  exact ⟨this, by unfold encL; rw [this]; rfl⟩
theorem encE_long {x : Px} (h : chkX x = none) (hl : 65536 < (pxB x).length) : encE x = some 2 ∧ encL x = [] := by
  have : encE x = some 2 := by unfold encE; rw [h]; exact if_pos hl
  exact ⟨this, by unfold encL; rw [this]; rfl⟩
theorem encE_ok {x : Px} (h : chkX x = none) (hl : ¬ 65536 < (pxB x).length) : encE x = none ∧ encL x = pxB x := by
  have : encE x = none := by unfold encE; rw [h]; exact if_neg hl
  exact ⟨this, by unfold encL; rw [this]; rfl⟩
set_option maxHeartbeats 8000000 in
theorem tenc_any (x : Tr) (w : World) (h : ShTab w) (hx : TrE w x) (hf : TrFl x) (ha : x.acc.size ≤ 9223372036854775807) (hd : x.den.size ≤ 140737488351232) (hl : (trB x).length + 400 ≤ 140737488355328) :
    Calls Tryz.prog 10 #[.agg (trC15 x)] w fun e w' => ∃ vb, e = .returned (.tuple #[vb, errV (encE (pxP x))]) ∧ BytesIn w' vb (encL (pxP x)) ∧ Below w.heap.size w w' := by
  have HLN := Lib.hid (show (trB x).length = (tr1 x).length + ((varint x.sg.length).length + x.sg.length) from by simp only [trB, List.length_append])
  have HL := Lib.hid hl
  have hba := below_alloc w (.cells (trC15 x) 34)
  have M := Lib.hid (show TxB w w.heap.size (trC15 x) x (w.alloc (.cells (trC15 x) 34)) from ⟨heap_alloc_new _ _, hx.below hba, hba⟩)
  have HT := Lib.hid (h.below hba h.lt)
  have HCS := Lib.hid (trC15_size x)
  obtain ⟨sa, sc, hsv⟩ := hx.v.s
  have HC5 := Lib.hid (show (trC15 x)[5]? = some (.slice sa x.sg.length sc) from by unfold trC15; rw [hsv]; rfl)
  have HSV := Lib.hid hsv
  have HCW := Lib.hid (fun g v XS w hw w0 hg hB he hr => wuns15_any x g v XS w hw w0 hg hB he hf hr)
  have HCK := Lib.hid (fun w h he => tcheck_any x w h he ha hd)
  have HSE := Lib.hid (show pxB (pxP x) = tr1 x ++ (varint x.sg.length ++ x.sg) from by rw [← trB_P]; rfl)
  have HPL := Lib.hid (show (pxB (pxP x)).length = (trB x).length from by rw [← trB_P])
  have E1 := Lib.hid (fun e => encE_chk (x := pxP x) (e := e))
  have E2 := Lib.hid (encE_long (x := pxP x))
  have E3 := Lib.hid (encE_ok (x := pxP x))
  obtain ⟨CC, hCC⟩ : ∃ z, z = trC15 x := ⟨_, rfl⟩
  rw [← hCC] at M HT HCS HCW HC5 HCK ⊢
  obtain ⟨P, hP⟩ : ∃ z, z = pxP x := ⟨_, rfl⟩
  rw [← hP] at HCK HSE HPL E1 E2 E3 ⊢
  obtain ⟨EE, hEE⟩ : ∃ z, z = encE P := ⟨_, rfl⟩
  obtain ⟨EL, hEL⟩ : ∃ z, z = encL P := ⟨_, rfl⟩
  rw [← hEE, ← hEL] at E1 E2 E3 ⊢
  obtain ⟨CK, hCK⟩ : ∃ z, z = chkX P := ⟨_, rfl⟩
  rw [← hCK] at HCK E1 E2 E3
  obtain ⟨LT, hLT⟩ : ∃ z, z = tr1 x := ⟨_, rfl⟩
  rw [← hLT] at HLN HCW HSE
  obtain ⟨LP, hLP⟩ : ∃ z, z = pxB P := ⟨_, rfl⟩
  rw [← hLP] at HSE HPL E2 E3
  obtain ⟨SG, hSG⟩ : ∃ z, z = x.sg := ⟨_, rfl⟩
  have HSG := Lib.hid hSG
  rw [← hSG] at HLN HC5 HSE HSV
  obtain ⟨n, hn⟩ : ∃ z, z = SG.length := ⟨_, rfl⟩
  have HN := Lib.hid hn
  rw [← hn] at HC5 HLN HSE HSV
  obtain ⟨TB, hTB⟩ : ∃ z, z = (trB x).length := ⟨_, rfl⟩
  rw [← hTB] at HL HLN HPL
  clear hl hCC hP hEE hEL hCK hLT hLP hSG hn hx hf hsv hba h ha hd hTB
  go_enter Tryz.func10, Tryz.ntmps10
  go_upto_region 1 with (fail)
  obtain ⟨q, hq⟩ : ∃ q, q = w.heap.size := ⟨_, rfl⟩
  rw [← hq] at M ⊢
  clear hq
  generalize w.alloc (.cells CC 34) = w1 at *
  cases CK with
  | some e0 =>
    obtain ⟨hE, hZ⟩ := E1.out e0 rfl
    have HE := Lib.hid hE
    have HZ := Lib.hid hZ
    clear hE hZ E1 E2 E3
    simp only [errV] at HCK
    go_wp2_with (first
      | (refine wpList_load_rowT (by rfl) 34 (.tmp 1) rfl q 0 rfl CC _ (rowT_range M.out.r) Tryz.underlying34 rfl (by rw [HCS.out]; kernel_rfl) ?_)
      | (go_at_call 14; (with_reducible refine (HCK.out _ HT.out M.out.x).mono ?_); rintro e w2 ⟨rfl, hb⟩; have HB2 := Lib.hid (M.out.b.trans (hb.mono M.out.b.size)); clear hb))
    go_ret2
    exact ⟨_, by rw [HE.out]; rfl, by rw [HZ.out]; exact nil_in _, HB2.out⟩
  | none =>
    clear E1
    simp only [errV] at HCK
    go_upto_region 4 with (first
      | (refine wpList_load_rowT (by rfl) 34 (.tmp 1) rfl q 0 rfl CC _ (rowT_range M.out.r) Tryz.underlying34 rfl (by rw [HCS.out]; kernel_rfl) ?_)
      | (go_at_call 14; (with_reducible refine (HCK.out _ HT.out M.out.x).mono ?_); rintro e w2 ⟨rfl, hb⟩; replace M := Lib.hid (M.out.call hb); clear hb))
    go_upto_region 6 with (first
      | (go_at_call 51; (with_reducible refine (new_any w2).mono ?_); rintro e w3 ⟨rfl, hw, hb⟩; obtain ⟨g, hg⟩ : ∃ g, g = w2.heap.size := ⟨_, rfl⟩; rw [← hg] at hw ⊢; have HG := Lib.hid hg; have HW := Lib.hid hw; have HB3 := Lib.hid hb; have HQ3 := Lib.hid ((hb.block q (bkT_lt M.out.r)).trans M.out.r); clear hw hb hg)
      | (refine wpList_load_rowT (by rfl) 34 (.tmp 1) rfl q 0 rfl CC _ (rowT_range HQ3.out) Tryz.underlying34 rfl (by rw [HCS.out]; kernel_rfl) ?_)
      | (go_at_call 52; (with_reducible refine (HCW.out g _ [] w3 HW.out w2 (by rw [HG.out]; exact Nat.le_refl _) HB3.out M.out.x (by have := HL.out; have := HLN.out; simp only [List.length_nil]; omega)).mono ?_); rintro e w4 ⟨rfl, v4, hw, hs⟩; have HB4 := Lib.hid (HB3.out.trans (hs.below HW.out (by rw [HG.out]; exact Nat.le_refl _))); replace HW := Lib.hid (show WAt w4 g v4 LT from hw); have HQ4 := Lib.hid ((HB4.out.block q (bkT_lt M.out.r)).trans M.out.r); clear hw hs))
    have c5 : w4.cell? ⟨q, 5, none⟩ = some (.slice sa n sc) := by rw [cell_of_row _ _ _ _ _ _ HQ4.out]; exact HC5.out
    have HWB := Lib.hid (show Calls Tryz.prog 53 #[.pointer (some ⟨g, 0, none⟩), .slice sa n sc] w4 (WPost g v4 LT (varint n ++ SG) w4) from by
      have hs := M.out.x.s
      rw [HSV.out, ← HSG.out] at hs
      have h := wbytes_any g v4 (.slice sa n sc) LT SG w4 HW.out (hs.below HB4.out) (fun hn => apart_of hs hn (by rw [HG.out]; exact Nat.le_refl _) HW.out) (by have := HL.out; have := HLN.out; have := HN.out; omega)
      rw [← HN.out] at h
      exact h)
    go_upto_region 7 with (first
      | (go_at_call 53; (with_reducible refine HWB.out.mono ?_); rintro e w5 hp; obtain ⟨rfl, v5, hw, hs⟩ := wpS_next hp; have HB5 := Lib.hid (HB4.out.trans (hs.below HW.out (by rw [HG.out]; exact Nat.le_refl _))); replace HW := Lib.hid (show WAt w5 g v5 LP from by rw [HSE.out]; exact hw); clear hp hw hs)
      | (go_at_call 54; (with_reducible refine (done_any g _ _ w5 HW.out (by have := HL.out; have := HPL.out; omega)).mono ?_); rintro e w6 ⟨vb, rfl, ho, hb⟩; have HO := Lib.hid (owns_in ho (by have := HL.out; have := HPL.out; unfold maxLen; omega)); have HB6 := Lib.hid (M.out.b.trans ((HB5.out.trans (hb.mono HB5.out.size)).mono M.out.b.size)); clear ho hb))
    clear c5
    obtain ⟨va, vc, rfl, -⟩ := id HO.out
    have HLPN := Lib.hid HPL.out
    obtain ⟨nl, hnl⟩ : ∃ z, z = LP.length := ⟨_, rfl⟩
    have HNL := Lib.hid hnl
    rw [← hnl] at HO E2 E3 ⊢
    have hnlI : (nl : Int) ≤ 9223372036854775807 := by have := HL.out; have := HPL.out; omega
    clear hnl
    by_cases h6 : 65536 < nl
    · have h6I : (65536 : Int) < (nl : Int) := by omega
      obtain ⟨hE, hZ⟩ := E2.out (by trivial) h6
      have HE := Lib.hid hE
      have HZ := Lib.hid hZ
      clear hE hZ E2 E3
      go_wp2_with (fail)
      go_ret2
      exact ⟨_, by rw [HE.out]; rfl, by rw [HZ.out]; exact nil_in _, HB6.out⟩
    · have h6I : ¬ (65536 : Int) < (nl : Int) := by omega
      obtain ⟨hE, hZ⟩ := E3.out (by trivial) h6
      have HE := Lib.hid hE
      have HZ := Lib.hid hZ
      clear hE hZ E2 E3
      go_wp2_with (fail)
      go_ret2
      exact ⟨_, by rw [HE.out]; rfl, by rw [HZ.out]; exact HO.out, HB6.out⟩
theorem cn_built (s : ByteArray) (a : Int) : Tryz.prog.built 23 [(0, .string s), (1, .int .i64 a)] = some #[.string s, .int .i64 a] := by kernel_rfl
theorem tx_built (ac dn : ByteArray) (S A : Int) (a1 a2 : Option Addr) (n1 n2 c1 c2 : Nat) : Tryz.prog.built 34 [(0, .string ac), (1, .int .i64 S), (2, .agg #[.string dn, .int .i64 A]), (3, .slice a1 n1 c1), (4, .slice a2 n2 c2)] = some #[.string ac, .int .i64 S, .string dn, .int .i64 A, .slice a1 n1 c1, .slice a2 n2 c2] := by kernel_rfl
/-- a transaction whose parts are new from block N on -/
structure TrO (w : World) (N : Nat) (x : Tr) : Prop where
  m : LgO 4 mgL MgE mgF w N x.mv x.ms
  s : BytesIn w x.sv x.sg
  o : ∀ j, x.sv.ownBlock = some j → N ≤ j ∧ j < w.heap.size
theorem TrO.e {w : World} {N : Nat} {x : Tr} (h : TrO w N x) : TrE w x := ⟨h.m.rows, fun m hm => (h.m.el m hm).1, h.s⟩
theorem TrO.below {w w' : World} {N : Nat} {x : Tr} (h : TrO w N x) (hb : Below w.heap.size w w') : TrO w' N x := ⟨LgO.below mgK h.m hb, h.s.below hb, fun j hj => ⟨(h.o j hj).1, Nat.lt_of_lt_of_le (h.o j hj).2 hb.size⟩⟩
theorem TrO.only {w w' : World} {N p : Nat} {x : Tr} (h : TrO w N x) (ho : Only p w w') (hp : p < N) : TrO w' N x := ⟨LgO.only mgK h.m ho hp, h.s.only ho (fun j hj => by have := h.o j hj; omega), fun j hj => ⟨(h.o j hj).1, Nat.lt_of_lt_of_le (h.o j hj).2 ho.size⟩⟩
set_option maxHeartbeats 8000000 in
theorem rtx15_any (p : Nat) (ob : Option Nat) (s : RSt) (w : World) (h : RO w p ob s) :
    Calls Tryz.prog 67 #[.pointer (some ⟨p, 0, none⟩)] w fun r w' => ∃ x : Tr, r = .returned (.agg (trC15 x)) ∧ TrO w' w.heap.size x ∧ pxP x = txV15 s ∧ RO w' p ob (txR15 s) ∧ Only p w w' := by
  have HLT := Lib.hid h.lt11
  have HOB := Lib.hid h.own11
  have HR0' := Lib.hid (fun o => h.below11 (below_alloc w o))
  have HT := Lib.hid (fun s w (h : RO w p ob s) => show Calls Tryz.prog 133 #[.pointer (some ⟨p, 0, none⟩), .int .i64 65536] w fun r w' => r = .returned (.string (sV15 s)) ∧ RO w' p ob (pR15 s) ∧ Only p w w' from rtextO_any p ob s 65536 w h (by omega) (by omega))
  have HI := Lib.hid (fun s w (h : RO w p ob s) => show Calls Tryz.prog 93 #[.pointer (some ⟨p, 0, none⟩)] w fun r w' => r = .returned (.int .i64 (iV15 s)) ∧ RO w' p ob (iR15 s) ∧ Only p w w' from intO_any p ob s w h)
  have HD := Lib.hid (fun s w (h : RO w p ob s) => show Calls Tryz.prog 136 #[.pointer (some ⟨p, 0, none⟩), .int .i64 65536] w fun r w' => ∃ v, r = .returned v ∧ BytesIn w' v (dV15 s) ∧ (∀ j, v.ownBlock = some j → w.heap.size ≤ j ∧ j < w'.heap.size) ∧ RO w' p ob (pR15 s) ∧ Only p w w' from rbytesO_any p ob s 65536 w h (by omega) (by omega))
  have HV := Lib.hid (show txV15 s = ⟨sV15 s, iV15 (pR15 s), sV15 (iR15 (pR15 s)), iV15 (pR15 (iR15 (pR15 s))), lstV mgV15 mgR15 65536 (tx4 s), dV15 (lstR mgR15 65536 (tx4 s))⟩ from rfl)
  have HRR := Lib.hid (show txR15 s = pR15 (lstR mgR15 65536 (tx4 s)) from rfl)
  have HEE := Lib.hid (fun h => txE15 (s := s) h)
  unfold tx4 at HV HRR
  obtain ⟨ac, h1⟩ : ∃ z, z = sV15 s := ⟨_, rfl⟩
  obtain ⟨s1, h2⟩ : ∃ z, z = pR15 s := ⟨_, rfl⟩
  have HT1 := Lib.hid (HT.out s)
  rw [← h1, ← h2] at HT1 HV
  rw [← h2] at HRR
  obtain ⟨SQ, h3⟩ : ∃ z, z = iV15 s1 := ⟨_, rfl⟩
  obtain ⟨s2, h4⟩ : ∃ z, z = iR15 s1 := ⟨_, rfl⟩
  have HI1 := Lib.hid (HI.out s1)
  rw [← h3, ← h4] at HI1 HV
  rw [← h4] at HRR
  obtain ⟨dn, h5⟩ : ∃ z, z = sV15 s2 := ⟨_, rfl⟩
  obtain ⟨s3, h6⟩ : ∃ z, z = pR15 s2 := ⟨_, rfl⟩
  have HT2 := Lib.hid (HT.out s2)
  rw [← h5, ← h6] at HT2 HV
  rw [← h6] at HRR
  obtain ⟨AM, h7⟩ : ∃ z, z = iV15 s3 := ⟨_, rfl⟩
  obtain ⟨s4, h8⟩ : ∃ z, z = iR15 s3 := ⟨_, rfl⟩
  have HI2 := Lib.hid (HI.out s3)
  rw [← h7, ← h8] at HI2 HV
  rw [← h8] at HRR
  clear h h1 h2 h3 h4 h5 h6 h7 h8 HT HI
  go_enter Tryz.func67, Tryz.ntmps67
  go_upto_region 1 with (fail)
  generalize hA : World.alloc w _ = w1
  obtain ⟨cz, hcz, hq⟩ : ∃ cz : Array Value, cz.size = 6 ∧ w1.heap[w.heap.size]? = some (.cells cz 34 (0, 0)) := ⟨_, by kernel_rfl, by rw [← hA]; exact heap_alloc_new _ _⟩
  have HCZ := Lib.hid hcz
  have HQ := Lib.hid hq
  have HR0 := Lib.hid (show RO w1 p ob s from by rw [← hA]; exact HR0'.out _)
  have HO0 := Lib.hid (show Only p w w1 from by rw [← hA]; exact Only.of_below (below_alloc _ _))
  have HS1 := Lib.hid (show w1.heap.size = w.heap.size + 1 from by rw [← hA]; simp)
  clear hA hcz hq HR0'
  obtain ⟨q, hqe⟩ : ∃ q, q = w.heap.size := ⟨_, rfl⟩
  have HQE := Lib.hid hqe
  rw [← hqe] at HQ ⊢
  clear hqe
  go_wp2_with (first
    | (go_at_call 133; (with_reducible refine (HT1.out w1 HR0.out).mono ?_); rintro e w2 ⟨rfl, hr, ho⟩; have HR1 := Lib.hid hr; have HO1 := Lib.hid (HO0.out.trans ho); have HG2 := Lib.hid ho.size; replace HQ := Lib.hid ((ho.block q (Array.getElem?_eq_some_iff.1 HQ.out).1 (by have := HLT.out; have := HQE.out; omega)).trans HQ.out); clear hr ho)
    | (go_at_call 93; (with_reducible refine (HI1.out w2 HR1.out).mono ?_); rintro e w3 ⟨rfl, hr, ho⟩; have HR2 := Lib.hid hr; have HO2 := Lib.hid (HO1.out.trans ho); have HG3 := Lib.hid ho.size; replace HQ := Lib.hid ((ho.block q (Array.getElem?_eq_some_iff.1 HQ.out).1 (by have := HLT.out; have := HQE.out; omega)).trans HQ.out); clear hr ho)
    | (go_at_call 133; (with_reducible refine (HT2.out w3 HR2.out).mono ?_); rintro e w4 ⟨rfl, hr, ho⟩; have HR3 := Lib.hid hr; have HO3 := Lib.hid (HO2.out.trans ho); have HG4 := Lib.hid ho.size; replace HQ := Lib.hid ((ho.block q (Array.getElem?_eq_some_iff.1 HQ.out).1 (by have := HLT.out; have := HQE.out; omega)).trans HQ.out); clear hr ho)
    | (go_at_call 93; (with_reducible refine (HI2.out w4 HR3.out).mono ?_); rintro e w5 ⟨rfl, hr, ho⟩; have HR4 := Lib.hid hr; have HO4 := Lib.hid (HO3.out.trans ho); have HG5 := Lib.hid ho.size; replace HQ := Lib.hid ((ho.block q (Array.getElem?_eq_some_iff.1 HQ.out).1 (by have := HLT.out; have := HQE.out; omega)).trans HQ.out); have HCB := Lib.hid (cn_built dn AM); clear hr ho)
    | (refine wpList_buildTo rfl 23 #[(0, .tmp 8), (1, .tmp 10)] rfl (some 11) rfl #[.string dn, .int .i64 AM] (by refine Eq.trans (congrArg (Tryz.prog.built 23) ?_) HCB.out; kernel_rfl) ?_)
    | (go_at_call 134; (with_reducible refine (rlist15M p ob s4 w5 HR4.out).mono ?_); rintro e w6 ⟨mv, ms, rfl, ht, hte, htn, hr, ho⟩; have HT6 := Lib.hid ht; have HME := Lib.hid hte; have HR5 := Lib.hid hr; have HO5 := Lib.hid (HO4.out.trans ho); have HG6 := Lib.hid ho.size; replace HQ := Lib.hid ((ho.block q (Array.getElem?_eq_some_iff.1 HQ.out).1 (by have := HLT.out; have := HQE.out; omega)).trans HQ.out); clear ht hte htn hr ho)
    | (go_at_call 136; (with_reducible refine (HD.out _ w6 HR5.out).mono ?_); rintro e w7 ⟨sv, rfl, hb, hn, hr, ho⟩; have HSB := Lib.hid hb; have HSN := Lib.hid hn; have HR6 := Lib.hid hr; have HO6 := Lib.hid (HO5.out.trans ho); have HG7 := Lib.hid ho.size; have HT7 := Lib.hid (LgO.only mgK HT6.out ho (by have := HLT.out; have := HS1.out; have := HG2.out; have := HG3.out; have := HG4.out; have := HG5.out; omega)); replace HQ := Lib.hid ((ho.block q (Array.getElem?_eq_some_iff.1 HQ.out).1 (by have := HLT.out; have := HQE.out; omega)).trans HQ.out); clear hb hn hr ho; obtain ⟨a1, c1, hmv, -⟩ := HT7.out.rows.len; obtain ⟨a2, c2, hsv, -⟩ := id HSB.out; obtain ⟨n1, hn1⟩ : ∃ n, n = ms.length := ⟨_, rfl⟩; obtain ⟨SG, hSG⟩ : ∃ n, n = dV15 (lstR mgR15 65536 s4) := ⟨_, rfl⟩; have HSG := Lib.hid hSG; rw [← hSG] at HSB hsv; obtain ⟨n2, hn2⟩ : ∃ n, n = SG.length := ⟨_, rfl⟩; rw [← hn1] at hmv; rw [← hn2] at hsv; subst hmv hsv; clear hn1 hn2 hSG; obtain ⟨CV, hCV⟩ : ∃ x : Array Value, x = #[.string ac, .int .i64 SQ, .string dn, .int .i64 AM, .slice a1 n1 c1, .slice a2 n2 c2] := ⟨_, rfl⟩; have HBU := Lib.hid ((tx_built ac dn SQ AM a1 a2 n1 n2 c1 c2).trans (congrArg some hCV.symm)); have HOC := Lib.hid (show CV.all (·.oneCell') = true from by rw [hCV]; simp [Value.oneCell']); have HZC := Lib.hid (show CV.size = 6 from by rw [hCV]; rfl); have HCV := Lib.hid hCV; clear hCV)
    | (refine wpList_buildTo rfl 34 #[(0, .tmp 4), (1, .tmp 6), (2, .tmp 11), (3, .tmp 13), (4, .tmp 15)] rfl (some 16) rfl CV (by refine Eq.trans (congrArg (Tryz.prog.built 34) ?_) HBU.out; kernel_rfl) ?_)
    | (refine wpList_store_row rfl 34 (.tmp 2) (.tmp 16) rfl q CV rfl rfl 34 _ HQ.out (by rw [HZC.out]; kernel_rfl) (by rw [HZC.out, HCZ.out]) HOC.out ?_))
  refine bodyPost_ret (results_cell_row rfl _ _ q 34 CV (0, 0) _ rfl (setRow_heap _ _ _ _ _ _ HQ.out) Tryz.underlying34 rfl (by rw [HZC.out]; kernel_rfl)) rfl ?_
  have hlt := HLT.out
  have hqe := HQE.out
  have hs1 := HS1.out
  have hg2 := HG2.out
  have hg3 := HG3.out
  have hg4 := HG4.out
  have hg5 := HG5.out
  have hg6 := HG6.out
  have hg7 := HG7.out
  have hpq : p ≠ q := by omega
  have hoq := only_setRow11 w7 q CV
  have hwq : w.heap.size ≤ q := by omega
  have hHO : Only p w (w7.setRow q CV) := HO6.out.behind hwq CV
  have o1 := LgO.only mgK HT7.out hoq (by omega)
  refine ⟨⟨ac, SQ, dn, AM, .slice a1 n1 c1, ms, .slice a2 n2 c2, SG⟩, (by first | (rw [HCV.out]; rfl) | rw [HCV.out]), ⟨o1.mono (by omega), HSB.out.only hoq (fun j hj => by have := HSN.out j hj; omega), fun j hj => by have := HSN.out j hj; have := hoq.size; omega⟩, ?_, (HR6.out.stay11 hoq hpq (fun hn k hk => ?_)).imp fun _ h => ?_, hHO⟩
  · have h1 := HME.out
    have h2 := HSG.out
    unfold pxP
    simp only
    rw [HV.out, h1, h2]
  · have := HOB.out (fun e => hn (by have := HEE.out e; rw [HRR.out] at this; exact this)) k hk
    omega
  · rw [HRR.out]; exact h
end Go.Proofs.YtejglhlodfhgkaaGreatDoor

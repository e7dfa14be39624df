/- Part 32 of the proof. -/
import Derived.Test.YtllpnpeppdfjlaaDoorSb25
import Derived.Test.YtllpnpeppdfjlaaDoorSb27
import Derived.Test.YtllpnpeppdfjlaaDoorSb30
import Derived.Test.YtllpnpeppdfjlaaDoorSb31
namespace Go.Proofs.YtllpnpeppdfjlaaDoor
set_option linter.unusedVariables false
set_option linter.unusedSimpArgs false
open Go.RowKit
set_option maxRecDepth 100000
set_option linter.unusedSimpArgs false
set_option linter.unusedVariables false
theorem beq15 (a b : ByteArray) : (a.toList == b.toList) = decide (a = b) := by
  rw [Bool.eq_iff_iff]
  simp only [beq_iff_eq, decide_eq_true_eq]
  refine ⟨fun h => ?_, fun h => by rw [h]⟩
  rw [ByteArray.toList_eq, ByteArray.toList_eq] at h
  cases a; cases b; congr; exact Array.toList_inj.1 h
theorem TrBk.sm {w : World} {B : Nat} {x : Tr} (h : TrBk w B x) (hB : B ≤ 1048576) : TrSm x :=
  ⟨Nat.le_trans h.nm hB, Nat.le_trans h.ns hB, fun m hm => ⟨Nat.le_trans (h.ok m hm).nt hB, Nat.le_trans (h.ok m hm).ni hB, Nat.le_trans (h.ok m hm).nd hB, fun t ht => Nat.le_trans (Nat.le_trans (mem_sum_le (List.mem_map.2 ⟨t, ht, rfl⟩)) (h.ok m hm).sd) hB⟩⟩
theorem TrBk.pok {w : World} {B : Nat} {x : Tr} (h : TrBk w B x) : PxOk (pxP x) := fun m hm b hb => by
  obtain ⟨m', hm', rfl⟩ := List.mem_map.1 hm
  obtain ⟨t, ht, rfl⟩ := List.mem_map.1 hb
  exact (h.ok m' hm').ok t ht
theorem TrFl.px {x : Tr} (h : TrFl x) : PxFl (pxP x) := ⟨h.s, h.a, fun m hm => by
  obtain ⟨m', hm', rfl⟩ := List.mem_map.1 hm
  exact ⟨(h.m m' hm').k, (h.m m' hm').i⟩⟩
theorem px1_sg (x : Px) (s : List Int) : px1 { x with sg := s } = px1 x := rfl
/-- the length, but for the two numbers -/
theorem px1_two (x : Px) (hf : i64b x.seq ∧ i64b x.amt) (s a : Int) (hs : i64b s) (ha : i64b a) (g : List Int) : (px1 { x with seq := s, amt := a, sg := g }).length ≤ (px1 x).length + 20 := by
  have h1 := it1_len hs
  have h2 := it1_len ha
  unfold px1
  simp only [List.length_append]
  omega
/-- a transaction whose Sign, number and amount are others -/
theorem TrE.with15 {w : World} {y : Tr} (h : TrE w y) {v : Value} {g : List Int} (hv : BytesIn w v g) (s a : Int) : TrE w { y with sv := v, sg := g, seq := s, amt := a } := ⟨h.m, h.e, hv⟩
theorem TrFl.with15 {y : Tr} (h : TrFl y) {s a : Int} (hs : i64b s) (ha : i64b a) (v : Value) (g : List Int) : TrFl { y with sv := v, sg := g, seq := s, amt := a } := ⟨hs, ha, h.m⟩
/-- what stands still while the law goes on: the argument's copy, the table, the argument -/
structure BkM (w : World) (p5 : Nat) (CX : Array Value) (x : Tr) (wr : World) : Prop where
  b : Below w.heap.size w wr
  r : wr.heap[p5]? = some (.cells CX 27 (0, 0))
  x : TrE wr x
  t : ShTab wr
theorem BkM.call {w : World} {p5 : Nat} {CX : Array Value} {x : Tr} {wr w' : World} (m : BkM w p5 CX x wr) (h : Below wr.heap.size wr w') : BkM w p5 CX x w' :=
  ⟨m.b.trans (h.mono m.b.size), (h.block p5 (bkT_lt m.r)).trans m.r, m.x.below h, m.t.below h m.t.lt⟩
set_option maxHeartbeats 16000000 in
theorem lxback_any (c d : ByteArray) (x : Tr) (w : World) (B : Nat) (h : ShTab w) (hx : TrBk w B x) (hB : B ≤ 1048576) (hc : c.size ≤ 1048576) (hd : d.size ≤ 1048576) :
    Calls Tryd.prog 3 #[.string c, .string d, .agg (trC15 x)] w fun e w' => e = .returned (.bool true) ∧ Below w.heap.size w w' := by
  obtain ⟨p, hp⟩ : ∃ p, p = pxP x := ⟨_, rfl⟩
  have hl0 := hx.len hB
  have hpl : (px1 p).length ≤ 70368744177664 := by rw [hp, ← tr1_P]; omega
  have hpa : p.acc.size ≤ 1048576 ∧ p.den.size ≤ 1048576 := by rw [hp]; exact ⟨Nat.le_trans hx.na hB, Nat.le_trans hx.nd hB⟩
  have hpg : p.sg.length ≤ 1048576 := by rw [hp]; exact Nat.le_trans hx.ns hB
  have hpf : PxFl p := by rw [hp]; exact hx.f.px
  have hpo : PxOk p := by rw [hp]; exact hx.pok
  have hps : bytesOk p.sg := by rw [hp]; exact hx.so
  have hpB : (pxB p).length + 400 ≤ 140737488355328 := by
    have := varint_le (show p.sg.length < 18446744073709551616 by omega)
    unfold pxB by1
    simp only [List.length_append]
    omega
  have HG := Lib.hid (fun w' (he : TrE w' x) => lxgive_any x w' he hx.f (hx.sm hB))
  have HEN := Lib.hid (show ∀ (y : Tr) (w' : World), ShTab w' → TrE w' y → TrFl y → pxP y = p → Calls Tryd.prog 4 #[.agg (trC15 y)] w' fun e w'' => ∃ vb, e = .returned (.tuple #[vb, errV (encE p)]) ∧ BytesIn w'' vb (encL p) ∧ Below w'.heap.size w' w'' from fun y w' h1 h2 h3 h4 => by
    have h5 : y.acc = p.acc := congrArg Px.acc h4
    have h6 : y.den = p.den := congrArg Px.den h4
    have hh := tenc_any y w' h1 h2 h3 (by rw [h5]; omega) (by rw [h6]; omega) (by rw [trB_P, h4]; exact hpB)
    rw [h4] at hh; exact hh)
  have HBY := Lib.hid (show ∀ (c' : ByteArray) (y : Tr) (w' : World), c'.size ≤ 1048576 → TrE w' y → TrFl y → (px1 (pxP y)).length ≤ 70368744177664 + 100 → Calls Tryd.prog 8 #[.string c', .agg (trC15 y)] w' fun e w'' => ∃ vb, e = .returned vb ∧ BytesIn w'' vb (pxS c' (pxP y)) ∧ Below w'.heap.size w' w'' from fun c' y w' h0 h1 h2 h3 => by
    have hh := tbytes_any c' y w' h1 h2 (by
      rw [trS_P]
      have e1 := st1_len c'
      have e2 := varint_le (show c'.size < 18446744073709551616 by omega)
      have e0 : ({ data := #[116, 120] } : ByteArray).size = 2 := rfl
      have e3 := st1_len { data := #[116, 120] }
      rw [e0] at e3
      have e4 := varint_le (show (2 : Nat) < 18446744073709551616 by omega)
      unfold pxS
      simp only [List.length_append]
      omega)
    rw [trS_P] at hh; exact hh)
  have HDE := Lib.hid (show encE p = none → ∀ vb (w' : World), ShTab w' → BytesIn w' vb (pxB p) → Calls Tryd.prog 6 #[vb] w' fun e w'' => ∃ y : Tr, e = .returned (.tuple #[.agg (trC15 y), .nilIface]) ∧ TrE w'' y ∧ pxP y = p ∧ Below w'.heap.size w' w'' from fun h0 vb w' h1 h2 => by
    obtain ⟨k1, k2⟩ := dec_enc p hpf h0
    obtain ⟨k3, k4⟩ := dec_yes k1
    have hh := tdec_any vb (pxB p) w' h1 h2 (ok_pxB hpo hps) (by omega)
    unfold DecO at hh
    rw [k3, k4, k2] at hh
    exact hh)
  have HSA := Lib.hid (show ∀ (y : Tr) (w' : World), TrE w' y → TrE w' x → pxP y = p → Calls Tryd.prog 7 #[.agg (trC15 y), .agg (trC15 x)] w' fun e w'' => e = .returned (.bool true) ∧ Below w'.heap.size w' w'' from fun y w' h1 h2 h3 => lxsame_any y x w' h1 h2 (h3.trans hp))
  have HSU := Lib.hid (fun w h => lxsure_any w h)
  have HEL := Lib.hid (show encE p = none → encL p = pxB p from fun h0 => by unfold encL; rw [h0]; rfl)
  obtain ⟨s2, hs2⟩ : ∃ z, z = bits .xor .i64 p.seq 1 := ⟨_, rfl⟩
  obtain ⟨a2, ha2⟩ : ∃ z, z = bits .xor .i64 p.amt 1 := ⟨_, rfl⟩
  have hx1 := xor15 p.seq hpf.s
  have hx2 := xor15 p.amt hpf.a
  rw [← hs2] at hx1
  rw [← ha2] at hx2
  have hl1 : ∀ g : List Int, (px1 { p with sg := g }).length ≤ 70368744177664 + 100 := fun g => by rw [px1_sg]; omega
  have HL := Lib.hid hl1
  have HL2 := Lib.hid (show ∀ g : List Int, (px1 { p with seq := s2, sg := g }).length ≤ 70368744177664 + 100 from fun g => Nat.le_trans (px1_two p ⟨hpf.s, hpf.a⟩ s2 p.amt hx1.1 hpf.a g) (by omega))
  have HL3 := Lib.hid (show (px1 { p with amt := a2 }).length ≤ 70368744177664 + 100 from Nat.le_trans (px1_two p ⟨hpf.s, hpf.a⟩ p.seq a2 hpf.s hx2.1 p.sg) (by omega))
  obtain ⟨S1, hS1⟩ : ∃ z, z = strOfNums (pxS c p) := ⟨_, rfl⟩
  obtain ⟨S2, hS2⟩ : ∃ z, z = strOfNums (pxS c { p with seq := s2, sg := p.sg ++ [1] }) := ⟨_, rfl⟩
  obtain ⟨S3, hS3⟩ : ∃ z, z = strOfNums (pxS c { p with amt := a2 }) := ⟨_, rfl⟩
  obtain ⟨S4, hS4⟩ : ∃ z, z = strOfNums (pxS d p) := ⟨_, rfl⟩
  have ha64 : p.acc.size < 18446744073709551616 ∧ p.den.size < 18446744073709551616 := ⟨by omega, by omega⟩
  have h12 : (S1.toList == S2.toList) = false := by
    rw [beq15, hS1, hS2, decide_eq_false_iff_not]
    exact strs_ne15 (ok_pxS c hpo) (ok_pxS c (x := { p with seq := s2, sg := p.sg ++ [1] }) hpo) fun e => hx1.2 (pxS_inj (c := c) (d := c) (x := p) (y := { p with seq := s2, sg := p.sg ++ [1] }) (by omega) (by omega) ha64 ha64 ⟨hpf.s, hpf.a⟩ ⟨hx1.1, hpf.a⟩ e).2.1.symm
  have h13 : (S1.toList == S3.toList) = false := by
    rw [beq15, hS1, hS3, decide_eq_false_iff_not]
    exact strs_ne15 (ok_pxS c hpo) (ok_pxS c (x := { p with amt := a2 }) hpo) fun e => hx2.2 (pxS_inj (c := c) (d := c) (x := p) (y := { p with amt := a2 }) (by omega) (by omega) ha64 ha64 ⟨hpf.s, hpf.a⟩ ⟨hpf.s, hx2.1⟩ e).2.2.symm
  have h14 : (S1.toList == S4.toList) = (c.toList == d.toList) := by
    rw [beq15, beq15, hS1, hS4]
    by_cases e : c = d
    · rw [e]; simp
    · rw [decide_eq_false e, decide_eq_false_iff_not]
      exact strs_ne15 (ok_pxS c hpo) (ok_pxS d hpo) fun e' => e (pxS_inj (c := c) (d := d) (x := p) (y := p) (by omega) (by omega) ha64 ha64 ⟨hpf.s, hpf.a⟩ ⟨hpf.s, hpf.a⟩ e').1
  have h11 : (S1.toList == S1.toList) = true := by simp
  have HS1 := Lib.hid hS1
  have HS2 := Lib.hid hS2
  have HS3 := Lib.hid hS3
  have HS4 := Lib.hid hS4
  have HFX := Lib.hid (show i64b p.seq ∧ i64b p.amt ∧ i64b s2 ∧ i64b a2 from ⟨hpf.s, hpf.a, hx1.1, hx2.1⟩)
  have HX2 := Lib.hid (show bits .xor .i64 p.seq 1 = s2 ∧ bits .xor .i64 p.amt 1 = a2 from ⟨hs2.symm, ha2.symm⟩)
  have HPG := Lib.hid hpg
  have HP := Lib.hid hp
  have HCC := Lib.hid (show c.size ≤ 1048576 ∧ d.size ≤ 1048576 from ⟨hc, hd⟩)
  obtain ⟨CX, hCX⟩ : ∃ z, z = trC15 x := ⟨_, rfl⟩
  have HCX := Lib.hid (show CX = trC15 x ∧ CX.size = 6 from ⟨hCX, by rw [hCX]; rfl⟩)
  have hm0 : BkM w w.heap.size CX x (w.alloc (.cells CX 27)) := ⟨below_alloc _ _, heap_alloc_new _ _, hx.e.below (below_alloc _ _), h.below (below_alloc _ _) h.lt⟩
  rw [← hCX]
  obtain ⟨p5, hp5⟩ : ∃ z, z = w.heap.size := ⟨_, rfl⟩
  have HM := Lib.hid hm0
  rw [← hCX] at HG HSA
  rw [← hp5] at HM
  have HP5 := Lib.hid hp5
  have HW0 := Lib.hid (show w.heap.size = p5 from hp5.symm)
  clear h hx hB hc hd hl0 hpl hpa hpg hpf hpo hps hpB hl1 hx1 hx2 hs2 ha2 hS1 hS2 hS3 hS4 ha64 hCX hm0 hp
  go_enter Tryd.func3, Tryd.ntmps3
  go_upto_region 1 with (fail)
  rw [← hp5]
  clear hp5
  generalize w.alloc (.cells CX 27) = w1 at *
  cases hE : encE p with
  | some n =>
    rw [hE] at HEN
    simp only [errV] at HEN
    go_upto_region 2 with (first
      | (refine wpList_load_rowT (by rfl) 27 (.tmp 5) rfl p5 0 rfl CX _ (rowT_range HM.out.r) Tryd.underlying27 rfl (by rw [HCX.out.2]; kernel_rfl) ?_)
      | (go_at_call 5; (with_reducible refine (HG.out _ HM.out.x).mono ?_); rintro e wg0 ⟨y0, rfl, he, hpp, hff, hown, hdis, hbb⟩; replace HM := Lib.hid (HM.out.call hbb); have HY0 := Lib.hid he; have HYP0 := Lib.hid (hpp.trans HP.out.symm); have HYF0 := Lib.hid hff; have HYO0 := Lib.hid hown; have HYD0 := Lib.hid hdis; have HYB0 := Lib.hid hbb; clear he hpp hff hown hdis hbb)
      | (go_at_call 4; (with_reducible refine (HEN.out y0 _ HM.out.t HY0.out HYF0.out HYP0.out).mono ?_); rintro e v00 ⟨vb0, rfl, hbi, hbb⟩; replace HM := Lib.hid (HM.out.call hbb); clear hbi hbb))
    clear HEN HDE HEL HSA hE HY0 HYP0 HYF0 HYO0 HYD0 HYB0
    go_upto_region 7 with (first
      | (refine wpList_load_rowT (by rfl) 27 (.tmp 5) rfl p5 0 rfl CX _ (rowT_range HM.out.r) Tryd.underlying27 rfl (by rw [HCX.out.2]; kernel_rfl) ?_)
      | (go_at_call 5; (with_reducible refine (HG.out _ HM.out.x).mono ?_); rintro e wga ⟨ya, rfl, he, hpp, hff, hown, hdis, hbb⟩; replace HM := Lib.hid (HM.out.call hbb); have HYa := Lib.hid he; have HYPa := Lib.hid (hpp.trans HP.out.symm); have HYFa := Lib.hid hff; have HYOa := Lib.hid hown; have HYDa := Lib.hid hdis; have HYBa := Lib.hid hbb; clear he hpp hff hown hdis hbb)
      | (go_at_call 8; (with_reducible refine (HBY.out c ya _ HCC.out.1 HYa.out HYFa.out (by rw [HYPa.out]; exact HL.out p.sg)).mono ?_); rintro e wea ⟨vb1, rfl, hbi, hbb⟩; replace HM := Lib.hid (HM.out.call hbb); rw [HYPa.out] at hbi; have hc1 := conv_bytes wea vb1 _ hbi; rw [← HS1.out] at hc1; clear hbi hbb))
    clear hc1
    have HMo := HM
    clear HYa HYPa HYFa HYOa HYDa HYBa
    go_upto_region 8 with (first
      | (refine wpList_load_rowT (by rfl) 27 (.tmp 5) rfl p5 0 rfl CX _ (rowT_range HM.out.r) Tryd.underlying27 rfl (by rw [HCX.out.2]; kernel_rfl) ?_)
      | (go_at_call 5; (with_reducible refine (HG.out _ HM.out.x).mono ?_); rintro e wgb ⟨yb, rfl, he, hpp, hff, hown, hdis, hbb⟩; replace HM := Lib.hid (HM.out.call hbb); have HYb := Lib.hid he; have HYPb := Lib.hid (hpp.trans HP.out.symm); have HYFb := Lib.hid hff; have HYOb := Lib.hid hown; have HYDb := Lib.hid hdis; have HYBb := Lib.hid hbb; clear he hpp hff hown hdis hbb)
      | (refine wpList_store_row rfl 34 (.tmp 12) (.tmp 41) rfl wgb.heap.size (trC15 yb) rfl rfl 34 _ (heap_alloc_new _ _) (by rw [trC15_size]; kernel_rfl) (by rw [trC15_size]; rfl) (trC15_one HYb.out.v) ?_; rw [World.setRow_alloc_new]))
    have HK := Lib.hid (BkY.new (y := yb) HYBb.out HYOb.out)
    obtain ⟨q12, hq⟩ : ∃ z, z = wgb.heap.size := ⟨_, rfl⟩
    rw [← hq] at HK ⊢
    clear hq
    generalize wgb.alloc (.cells (trC15 yb) 34) = w7 at *
    obtain ⟨sba, sbc, hsv⟩ := own_slice11 HYOb.out
    have HSV := Lib.hid hsv
    have hsg : yb.sg.length ≤ 1048576 := by have e : yb.sg = p.sg := congrArg Px.sg HYPb.out; rw [e]; exact HPG.out
    have HSG := Lib.hid hsg
    have k5 : w7.cell? ⟨q12, 5, none⟩ = some (.slice sba yb.sg.length sbc) := ((tx_cells (show w7.heap[q12]? = some (.cells #[.string yb.acc, .int .i64 yb.seq, .string yb.den, .int .i64 yb.amt, yb.mv, yb.sv] 34 (0, 0)) from HK.out.r)).2.2.2.2.2.2).trans (congrArg some hsv)
    have HOW := Lib.hid (show (w7.alloc (.cells #[.int .u8 1] 5)).ownsRow wea.heap.size 5 1 (.slice sba yb.sg.length sbc) yb.sg.length (byteVals yb.sg) from by
      have h := HK.out.o
      rw [hsv] at h
      exact own_stay11 h fun j hj => (below_alloc w7 _).block j (h.lt j hj).2)
    have HSZ := Lib.hid (show wea.heap.size ≤ (w7.alloc (.cells #[.int .u8 1] 5)).heap.size from Nat.le_trans HK.out.b.size (below_alloc w7 _).size)
    have HON := Lib.hid (show yb.sg.length + ([1] : List Int).length ≤ 140737488355328 from by simp only [List.length_cons, List.length_nil]; omega)
    clear hsv hsg HM
    go_upto_region 9 with (at_builtin; refine wpList_append_bytes rfl (.tmp 43) (.tmp 44) rfl rfl wea.heap.size (.slice sba yb.sg.length sbc) yb.sg.length (byteVals yb.sg) rfl HOW.out (.slice (some ⟨w7.heap.size, 0, none⟩) 1 1) [1] rfl (one_in w7 1) HON.out HSZ.out ?_; intro v9 w9 ho9 hg9 hw9; clear hw9; obtain ⟨a9, c9, rfl⟩ := own_slice11 ho9; have HO9 := Lib.hid (show w9.ownsRow wea.heap.size 5 1 (.slice a9 (yb.sg.length + 1) c9) (yb.sg ++ [1]).length (byteVals (yb.sg ++ [1])) from by rw [List.length_append, byteVals_append]; exact ho9); have HG9 := Lib.hid (show (w7.alloc (.cells #[.int .u8 1] 5)).grownBy w9 yb.sv.ownBlock from by rw [HSV.out]; exact hg9); clear ho9 hg9; have hr9 : w9.heap[q12]? = some (.cells #[.string yb.acc, .int .i64 yb.seq, .string yb.den, .int .i64 yb.amt, yb.mv, yb.sv] 34 (0, 0)) := (HG9.out.block q12 (Nat.lt_of_lt_of_le (bkT_lt HK.out.r) (below_alloc w7 _).size) (fun e => HK.out.n q12 e.symm rfl)).trans (((below_alloc w7 _).block q12 (bkT_lt HK.out.r)).trans HK.out.r); have k9 := (tx_cells hr9).2.2.2.2.2.2; have kf := frozen_of_row w9 q12 5 _ _ hr9; clear hr9)
    clear k5 k9 kf
    have HK2 := Lib.hid (show BkY wea wgb yb q12 (.slice a9 (yb.sg.length + 1) c9) (yb.sg ++ [1]) yb.seq yb.amt (w9.setCell ⟨q12, 5, none⟩ (.slice a9 (yb.sg.length + 1) c9)) from BkY.grow HK.out (below_alloc w7 _) HG9.out HO9.out)
    clear HK HO9 HG9 HOW HSZ HON
    generalize w9.setCell ⟨q12, 5, none⟩ (.slice a9 (yb.sg.length + 1) c9) = w10 at *
    have HM := Lib.hid (HMo.out.call HK2.out.b)
    obtain ⟨V9, hV9⟩ : ∃ z, z = Value.slice a9 (yb.sg.length + 1) c9 := ⟨_, rfl⟩
    rw [← hV9] at HK2
    clear hV9
    have HGL := Lib.hid (show (yb.sg ++ [1]).length ≤ maxLen from by rw [List.length_append]; have := HSG.out; simp only [List.length_cons, List.length_nil]; unfold maxLen; omega)
    obtain ⟨Y1, hY1⟩ : ∃ z : Tr, z = trW15 yb V9 (yb.sg ++ [1]) yb.seq yb.amt := ⟨_, rfl⟩
    have HT1 := Lib.hid (show TrE w10 Y1 from by rw [hY1]; exact HK2.out.e HYb.out HYDb.out HGL.out)
    have HF1 := Lib.hid (show TrFl Y1 from by rw [hY1]; exact ⟨HYFb.out.s, HYFb.out.a, HYFb.out.m⟩)
    have hP1 : pxP Y1 = { p with sg := p.sg ++ [1] } := by rw [hY1]; show ({ pxP yb with sg := (pxP yb).sg ++ [1] } : Px) = _; rw [HYPb.out]
    have HQ1 := Lib.hid (show (px1 (pxP Y1)).length ≤ 70368744177664 + 100 from by rw [hP1]; exact HL.out _)
    have HE1 := Lib.hid (show strOfNums (pxS c (pxP Y1)) = S1 from by rw [hP1, HS1.out]; rfl)
    have HR1 := Lib.hid (show w10.heap[q12]? = some (.cells (trC15 Y1) 34 (0, 0)) from by rw [hY1]; exact HK2.out.r)
    clear hY1 hP1
    go_upto_region 11 with (first
      | (refine wpList_load_rowT (by rfl) 34 (.tmp 12) rfl q12 0 rfl (trC15 Y1) _ (rowT_range HR1.out) Tryd.underlying34 rfl (by rw [trC15_size]; kernel_rfl) ?_)
      | (go_at_call 8; (with_reducible refine (HBY.out c Y1 _ HCC.out.1 HT1.out HF1.out HQ1.out).mono ?_); rintro e w11 ⟨vb2, rfl, hbi, hbb⟩; replace HM := Lib.hid (HM.out.call hbb); replace HK2 := Lib.hid (HK2.out.call hbb); have hc1 := conv_bytes w11 vb2 _ hbi; rw [HE1.out] at hc1; clear hbi hbb))
    clear hc1 HT1 HF1 HQ1 HE1 HR1
    have hr11 : w11.heap[q12]? = some (.cells #[.string yb.acc, .int .i64 yb.seq, .string yb.den, .int .i64 yb.amt, yb.mv, V9] 34 (0, 0)) := HK2.out.r
    have k1 : w11.cell? ⟨q12, 1, none⟩ = some (.int .i64 p.seq) := (tx_cells hr11).2.1.trans (by rw [show yb.seq = p.seq from congrArg Px.seq HYPb.out])
    have kf := frozen_of_row w11 q12 1 _ _ hr11
    clear hr11
    go_upto_region 12 with (fail)
    rw [HX2.out.1]
    clear k1 kf
    have HK3 := Lib.hid (show BkY wea wgb yb q12 V9 (yb.sg ++ [1]) s2 yb.amt (w11.setCell ⟨q12, 1, none⟩ (.int .i64 s2)) from HK2.out.set 1 (.int .i64 s2) rfl)
    clear HK2
    generalize w11.setCell ⟨q12, 1, none⟩ (.int .i64 s2) = w12 at *
    replace HM := Lib.hid (HMo.out.call HK3.out.b)
    have HMp := HM
    go_upto_region 13 with (first
      | (refine wpList_load_rowT (by rfl) 27 (.tmp 5) rfl p5 0 rfl CX _ (rowT_range HM.out.r) Tryd.underlying27 rfl (by rw [HCX.out.2]; kernel_rfl) ?_)
      | (go_at_call 5; (with_reducible refine (HG.out _ HM.out.x).mono ?_); rintro e wgf ⟨yf, rfl, he, hpp, hff, hown, hdis, hbb⟩; replace HM := Lib.hid (HM.out.call hbb); have HYf := Lib.hid he; have HYPf := Lib.hid (hpp.trans HP.out.symm); have HYFf := Lib.hid hff; have HYOf := Lib.hid hown; have HYDf := Lib.hid hdis; have HYBf := Lib.hid hbb; clear he hpp hff hown hdis hbb)
      | (refine wpList_store_row rfl 34 (.tmp 13) (.tmp 58) rfl wgf.heap.size (trC15 yf) rfl rfl 34 _ (heap_alloc_new _ _) (by rw [trC15_size]; kernel_rfl) (by rw [trC15_size]; rfl) (trC15_one HYf.out.v) ?_; rw [World.setRow_alloc_new]))
    have HZ := Lib.hid (BkY.new (y := yf) HYBf.out HYOf.out)
    obtain ⟨q13, hq⟩ : ∃ z, z = wgf.heap.size := ⟨_, rfl⟩
    rw [← hq] at HZ ⊢
    clear hq HM
    generalize wgf.alloc (.cells (trC15 yf) 34) = w13 at *
    have hr13 : w13.heap[q13]? = some (.cells #[.string yf.acc, .int .i64 yf.seq, .string yf.den, .int .i64 yf.amt, yf.mv, yf.sv] 34 (0, 0)) := HZ.out.r
    have k3 : w13.cell? ⟨q13, 3, none⟩ = some (.int .i64 p.amt) := (tx_cells hr13).2.2.2.2.1.trans (by rw [show yf.amt = p.amt from congrArg Px.amt HYPf.out])
    have kf := frozen_of_row w13 q13 3 _ _ hr13
    clear hr13
    go_upto_region 14 with (fail)
    rw [HX2.out.2]
    clear k3 kf
    have HZ2 := Lib.hid (show BkY w12 wgf yf q13 yf.sv yf.sg yf.seq a2 (w13.setCell ⟨q13, 3, none⟩ (.int .i64 a2)) from HZ.out.set 3 (.int .i64 a2) rfl)
    clear HZ
    generalize w13.setCell ⟨q13, 3, none⟩ (.int .i64 a2) = w14 at *
    have HM := Lib.hid (HMp.out.call HZ2.out.b)
    replace HK3 := Lib.hid (HK3.out.call HZ2.out.b)
    obtain ⟨Y2, hY2⟩ : ∃ z : Tr, z = trW15 yb V9 (yb.sg ++ [1]) s2 yb.amt := ⟨_, rfl⟩
    obtain ⟨Z2, hZ2⟩ : ∃ z : Tr, z = trW15 yf yf.sv yf.sg yf.seq a2 := ⟨_, rfl⟩
    have HT2 := Lib.hid (show TrE w14 Y2 from by rw [hY2]; exact HK3.out.e HYb.out HYDb.out HGL.out)
    have HT3 := Lib.hid (show TrE w14 Z2 from by rw [hZ2]; exact HZ2.out.e HYf.out HYDf.out (by have e : yf.sg = p.sg := congrArg Px.sg HYPf.out; rw [e]; exact Nat.le_trans HPG.out (by unfold maxLen; omega)))
    have HF2 := Lib.hid (show TrFl Y2 from by rw [hY2]; exact ⟨HFX.out.2.2.1, HYFb.out.a, HYFb.out.m⟩)
    have HF3 := Lib.hid (show TrFl Z2 from by rw [hZ2]; exact ⟨HYFf.out.s, HFX.out.2.2.2, HYFf.out.m⟩)
    have hP2 : pxP Y2 = { p with seq := s2, sg := p.sg ++ [1] } := by rw [hY2]; show ({ pxP yb with seq := s2, sg := (pxP yb).sg ++ [1] } : Px) = _; rw [HYPb.out]
    have hP3 : pxP Z2 = { p with amt := a2 } := by rw [hZ2]; show ({ pxP yf with amt := a2 } : Px) = _; rw [HYPf.out]
    have HQ2 := Lib.hid (show (px1 (pxP Y2)).length ≤ 70368744177664 + 100 from by rw [hP2]; exact HL2.out _)
    have HQ3 := Lib.hid (show (px1 (pxP Z2)).length ≤ 70368744177664 + 100 from by rw [hP3]; exact HL3.out)
    have HE2 := Lib.hid (show strOfNums (pxS c (pxP Y2)) = S2 from by rw [hP2, HS2.out])
    have HE3 := Lib.hid (show strOfNums (pxS c (pxP Z2)) = S3 from by rw [hP3, HS3.out])
    have HR2 := Lib.hid (show w14.heap[q12]? = some (.cells (trC15 Y2) 34 (0, 0)) from by rw [hY2]; exact HK3.out.r)
    have HR3 := Lib.hid (show w14.heap[q13]? = some (.cells (trC15 Z2) 34 (0, 0)) from by rw [hZ2]; exact HZ2.out.r)
    clear hY2 hZ2 hP2 hP3 HK3 HZ2 HYb HYPb HYFb HYOb HYDb HYBb HYf HYPf HYFf HYOf HYDf HYBf HMo HMp
    go_wp2_with (first
      | (refine wpList_load_rowT (by rfl) 34 (.tmp 12) rfl q12 0 rfl (trC15 Y2) _ (rowT_range HR2.out) Tryd.underlying34 rfl (by rw [trC15_size]; kernel_rfl) ?_)
      | (go_at_call 8; (with_reducible refine (HBY.out c Y2 _ HCC.out.1 HT2.out HF2.out HQ2.out).mono ?_); rintro e w15 ⟨vb3, rfl, hbi, hbb⟩; replace HM := Lib.hid (HM.out.call hbb); replace HT3 := Lib.hid (HT3.out.below hbb); replace HR3 := Lib.hid ((hbb.block q13 (bkT_lt HR3.out)).trans HR3.out); have hc2 := conv_bytes w15 vb3 _ hbi; rw [HE2.out] at hc2; clear hbi hbb)
      | (refine wpList_load_rowT (by rfl) 34 (.tmp 13) rfl q13 0 rfl (trC15 Z2) _ (rowT_range HR3.out) Tryd.underlying34 rfl (by rw [trC15_size]; kernel_rfl) ?_)
      | (go_at_call 8; (with_reducible refine (HBY.out c Z2 _ HCC.out.1 HT3.out HF3.out HQ3.out).mono ?_); rintro e w16 ⟨vb4, rfl, hbi, hbb⟩; replace HM := Lib.hid (HM.out.call hbb); clear hc2; have hc3 := conv_bytes w16 vb4 _ hbi; rw [HE3.out] at hc3; clear hbi hbb)
      | (refine wpList_load_rowT (by rfl) 27 (.tmp 5) rfl p5 0 rfl CX _ (rowT_range HM.out.r) Tryd.underlying27 rfl (by rw [HCX.out.2]; kernel_rfl) ?_)
      | (go_at_call 5; (with_reducible refine (HG.out _ HM.out.x).mono ?_); rintro e wgg ⟨yg, rfl, he, hpp, hff, hown, hdis, hbb⟩; replace HM := Lib.hid (HM.out.call hbb); have HYg := Lib.hid he; have HYPg := Lib.hid (hpp.trans HP.out.symm); have HYFg := Lib.hid hff; have HYOg := Lib.hid hown; have HYDg := Lib.hid hdis; have HYBg := Lib.hid hbb; clear he hpp hff hown hdis hbb)
      | (go_at_call 8; (with_reducible refine (HBY.out d yg _ HCC.out.2 HYg.out HYFg.out (by rw [HYPg.out]; exact HL.out p.sg)).mono ?_); rintro e w17 ⟨vb5, rfl, hbi, hbb⟩; replace HM := Lib.hid (HM.out.call hbb); clear hc3; rw [HYPg.out] at hbi; have hc4 := conv_bytes w17 vb5 _ hbi; rw [← HS4.out] at hc4; clear hbi hbb)
      | (go_at_call 9; (with_reducible refine (HSU.out _ HM.out.t).mono ?_); rintro e w18 ⟨rfl, hbb⟩; replace HM := Lib.hid (HM.out.call hbb); clear hbb))
    go_ret
    exact ⟨rfl, HM.out.b⟩

  | none =>
    rw [hE, HEL.out hE] at HEN
    simp only [errV] at HEN
    have HDF := Lib.hid (HDE.out hE)
    go_upto_region 3 with (first
      | (refine wpList_load_rowT (by rfl) 27 (.tmp 5) rfl p5 0 rfl CX _ (rowT_range HM.out.r) Tryd.underlying27 rfl (by rw [HCX.out.2]; kernel_rfl) ?_)
      | (go_at_call 5; (with_reducible refine (HG.out _ HM.out.x).mono ?_); rintro e wg0 ⟨y0, rfl, he, hpp, hff, hown, hdis, hbb⟩; replace HM := Lib.hid (HM.out.call hbb); have HY0 := Lib.hid he; have HYP0 := Lib.hid (hpp.trans HP.out.symm); have HYF0 := Lib.hid hff; have HYO0 := Lib.hid hown; have HYD0 := Lib.hid hdis; have HYB0 := Lib.hid hbb; clear he hpp hff hown hdis hbb)
      | (go_at_call 4; (with_reducible refine (HEN.out y0 _ HM.out.t HY0.out HYF0.out HYP0.out).mono ?_); rintro e v00 ⟨vb0, rfl, hbi, hbb⟩; replace HM := Lib.hid (HM.out.call hbb); have HBI := Lib.hid hbi; clear hbi hbb))
    clear HEN HDE HEL hE HY0 HYP0 HYF0 HYO0 HYD0 HYB0
    go_upto_region 4 with (first
      | (go_at_call 6; (with_reducible refine (HDF.out vb0 _ HM.out.t HBI.out).mono ?_); rintro e wd ⟨yd, rfl, he, hpp, hbb⟩; replace HM := Lib.hid (HM.out.call hbb); have HYd := Lib.hid he; have HYPd := Lib.hid hpp; clear he hpp hbb)
      | (refine wpList_store_row rfl 34 (.tmp 9) (.tmp 25) rfl wd.heap.size (trC15 yd) rfl rfl 34 _ (heap_alloc_new _ _) (by rw [trC15_size]; kernel_rfl) (by rw [trC15_size]; rfl) (trC15_one HYd.out.v) ?_; rw [World.setRow_alloc_new]))
    have HR9 := Lib.hid (heap_alloc_new wd (.cells (trC15 yd) 34))
    replace HM := Lib.hid (HM.out.call (below_alloc wd (.cells (trC15 yd) 34)))
    replace HYd := Lib.hid (HYd.out.below (below_alloc wd (.cells (trC15 yd) 34)))
    obtain ⟨q9, hq⟩ : ∃ z, z = wd.heap.size := ⟨_, rfl⟩
    rw [← hq] at HR9 ⊢
    clear hq HDF HBI
    generalize wd.alloc (.cells (trC15 yd) 34) = w4 at *
    go_upto_region 6 with (first
      | (refine wpList_load_rowT (by rfl) 34 (.tmp 9) rfl q9 0 rfl (trC15 yd) _ (rowT_range HR9.out) Tryd.underlying34 rfl (by rw [trC15_size]; kernel_rfl) ?_)
      | (refine wpList_load_rowT (by rfl) 27 (.tmp 5) rfl p5 0 rfl CX _ (rowT_range HM.out.r) Tryd.underlying27 rfl (by rw [HCX.out.2]; kernel_rfl) ?_)
      | (go_at_call 7; (with_reducible refine (HSA.out yd _ HYd.out HM.out.x HYPd.out).mono ?_); rintro e w5 ⟨rfl, hbb⟩; replace HM := Lib.hid (HM.out.call hbb); clear hbb))
    clear HSA HYd HYPd HR9
    go_upto_region 7 with (first
      | (refine wpList_load_rowT (by rfl) 27 (.tmp 5) rfl p5 0 rfl CX _ (rowT_range HM.out.r) Tryd.underlying27 rfl (by rw [HCX.out.2]; kernel_rfl) ?_)
      | (go_at_call 5; (with_reducible refine (HG.out _ HM.out.x).mono ?_); rintro e wga ⟨ya, rfl, he, hpp, hff, hown, hdis, hbb⟩; replace HM := Lib.hid (HM.out.call hbb); have HYa := Lib.hid he; have HYPa := Lib.hid (hpp.trans HP.out.symm); have HYFa := Lib.hid hff; have HYOa := Lib.hid hown; have HYDa := Lib.hid hdis; have HYBa := Lib.hid hbb; clear he hpp hff hown hdis hbb)
      | (go_at_call 8; (with_reducible refine (HBY.out c ya _ HCC.out.1 HYa.out HYFa.out (by rw [HYPa.out]; exact HL.out p.sg)).mono ?_); rintro e wea ⟨vb1, rfl, hbi, hbb⟩; replace HM := Lib.hid (HM.out.call hbb); rw [HYPa.out] at hbi; have hc1 := conv_bytes wea vb1 _ hbi; rw [← HS1.out] at hc1; clear hbi hbb))
    clear hc1
    have HMo := HM
    clear HYa HYPa HYFa HYOa HYDa HYBa
    go_upto_region 8 with (first
      | (refine wpList_load_rowT (by rfl) 27 (.tmp 5) rfl p5 0 rfl CX _ (rowT_range HM.out.r) Tryd.underlying27 rfl (by rw [HCX.out.2]; kernel_rfl) ?_)
      | (go_at_call 5; (with_reducible refine (HG.out _ HM.out.x).mono ?_); rintro e wgb ⟨yb, rfl, he, hpp, hff, hown, hdis, hbb⟩; replace HM := Lib.hid (HM.out.call hbb); have HYb := Lib.hid he; have HYPb := Lib.hid (hpp.trans HP.out.symm); have HYFb := Lib.hid hff; have HYOb := Lib.hid hown; have HYDb := Lib.hid hdis; have HYBb := Lib.hid hbb; clear he hpp hff hown hdis hbb)
      | (refine wpList_store_row rfl 34 (.tmp 12) (.tmp 41) rfl wgb.heap.size (trC15 yb) rfl rfl 34 _ (heap_alloc_new _ _) (by rw [trC15_size]; kernel_rfl) (by rw [trC15_size]; rfl) (trC15_one HYb.out.v) ?_; rw [World.setRow_alloc_new]))
    have HK := Lib.hid (BkY.new (y := yb) HYBb.out HYOb.out)
    obtain ⟨q12, hq⟩ : ∃ z, z = wgb.heap.size := ⟨_, rfl⟩
    rw [← hq] at HK ⊢
    clear hq
    generalize wgb.alloc (.cells (trC15 yb) 34) = w7 at *
    obtain ⟨sba, sbc, hsv⟩ := own_slice11 HYOb.out
    have HSV := Lib.hid hsv
    have hsg : yb.sg.length ≤ 1048576 := by have e : yb.sg = p.sg := congrArg Px.sg HYPb.out; rw [e]; exact HPG.out
    have HSG := Lib.hid hsg
    have k5 : w7.cell? ⟨q12, 5, none⟩ = some (.slice sba yb.sg.length sbc) := ((tx_cells (show w7.heap[q12]? = some (.cells #[.string yb.acc, .int .i64 yb.seq, .string yb.den, .int .i64 yb.amt, yb.mv, yb.sv] 34 (0, 0)) from HK.out.r)).2.2.2.2.2.2).trans (congrArg some hsv)
    have HOW := Lib.hid (show (w7.alloc (.cells #[.int .u8 1] 5)).ownsRow wea.heap.size 5 1 (.slice sba yb.sg.length sbc) yb.sg.length (byteVals yb.sg) from by
      have h := HK.out.o
      rw [hsv] at h
      exact own_stay11 h fun j hj => (below_alloc w7 _).block j (h.lt j hj).2)
    have HSZ := Lib.hid (show wea.heap.size ≤ (w7.alloc (.cells #[.int .u8 1] 5)).heap.size from Nat.le_trans HK.out.b.size (below_alloc w7 _).size)
    have HON := Lib.hid (show yb.sg.length + ([1] : List Int).length ≤ 140737488355328 from by simp only [List.length_cons, List.length_nil]; omega)
    clear hsv hsg HM
    go_upto_region 9 with (at_builtin; refine wpList_append_bytes rfl (.tmp 43) (.tmp 44) rfl rfl wea.heap.size (.slice sba yb.sg.length sbc) yb.sg.length (byteVals yb.sg) rfl HOW.out (.slice (some ⟨w7.heap.size, 0, none⟩) 1 1) [1] rfl (one_in w7 1) HON.out HSZ.out ?_; intro v9 w9 ho9 hg9 hw9; clear hw9; obtain ⟨a9, c9, rfl⟩ := own_slice11 ho9; have HO9 := Lib.hid (show w9.ownsRow wea.heap.size 5 1 (.slice a9 (yb.sg.length + 1) c9) (yb.sg ++ [1]).length (byteVals (yb.sg ++ [1])) from by rw [List.length_append, byteVals_append]; exact ho9); have HG9 := Lib.hid (show (w7.alloc (.cells #[.int .u8 1] 5)).grownBy w9 yb.sv.ownBlock from by rw [HSV.out]; exact hg9); clear ho9 hg9; have hr9 : w9.heap[q12]? = some (.cells #[.string yb.acc, .int .i64 yb.seq, .string yb.den, .int .i64 yb.amt, yb.mv, yb.sv] 34 (0, 0)) := (HG9.out.block q12 (Nat.lt_of_lt_of_le (bkT_lt HK.out.r) (below_alloc w7 _).size) (fun e => HK.out.n q12 e.symm rfl)).trans (((below_alloc w7 _).block q12 (bkT_lt HK.out.r)).trans HK.out.r); have k9 := (tx_cells hr9).2.2.2.2.2.2; have kf := frozen_of_row w9 q12 5 _ _ hr9; clear hr9)
    clear k5 k9 kf
    have HK2 := Lib.hid (show BkY wea wgb yb q12 (.slice a9 (yb.sg.length + 1) c9) (yb.sg ++ [1]) yb.seq yb.amt (w9.setCell ⟨q12, 5, none⟩ (.slice a9 (yb.sg.length + 1) c9)) from BkY.grow HK.out (below_alloc w7 _) HG9.out HO9.out)
    clear HK HO9 HG9 HOW HSZ HON
    generalize w9.setCell ⟨q12, 5, none⟩ (.slice a9 (yb.sg.length + 1) c9) = w10 at *
    have HM := Lib.hid (HMo.out.call HK2.out.b)
    obtain ⟨V9, hV9⟩ : ∃ z, z = Value.slice a9 (yb.sg.length + 1) c9 := ⟨_, rfl⟩
    rw [← hV9] at HK2
    clear hV9
    have HGL := Lib.hid (show (yb.sg ++ [1]).length ≤ maxLen from by rw [List.length_append]; have := HSG.out; simp only [List.length_cons, List.length_nil]; unfold maxLen; omega)
    obtain ⟨Y1, hY1⟩ : ∃ z : Tr, z = trW15 yb V9 (yb.sg ++ [1]) yb.seq yb.amt := ⟨_, rfl⟩
    have HT1 := Lib.hid (show TrE w10 Y1 from by rw [hY1]; exact HK2.out.e HYb.out HYDb.out HGL.out)
    have HF1 := Lib.hid (show TrFl Y1 from by rw [hY1]; exact ⟨HYFb.out.s, HYFb.out.a, HYFb.out.m⟩)
    have hP1 : pxP Y1 = { p with sg := p.sg ++ [1] } := by rw [hY1]; show ({ pxP yb with sg := (pxP yb).sg ++ [1] } : Px) = _; rw [HYPb.out]
    have HQ1 := Lib.hid (show (px1 (pxP Y1)).length ≤ 70368744177664 + 100 from by rw [hP1]; exact HL.out _)
    have HE1 := Lib.hid (show strOfNums (pxS c (pxP Y1)) = S1 from by rw [hP1, HS1.out]; rfl)
    have HR1 := Lib.hid (show w10.heap[q12]? = some (.cells (trC15 Y1) 34 (0, 0)) from by rw [hY1]; exact HK2.out.r)
    clear hY1 hP1
    go_upto_region 11 with (first
      | (refine wpList_load_rowT (by rfl) 34 (.tmp 12) rfl q12 0 rfl (trC15 Y1) _ (rowT_range HR1.out) Tryd.underlying34 rfl (by rw [trC15_size]; kernel_rfl) ?_)
      | (go_at_call 8; (with_reducible refine (HBY.out c Y1 _ HCC.out.1 HT1.out HF1.out HQ1.out).mono ?_); rintro e w11 ⟨vb2, rfl, hbi, hbb⟩; replace HM := Lib.hid (HM.out.call hbb); replace HK2 := Lib.hid (HK2.out.call hbb); have hc1 := conv_bytes w11 vb2 _ hbi; rw [HE1.out] at hc1; clear hbi hbb))
    clear hc1 HT1 HF1 HQ1 HE1 HR1
    have hr11 : w11.heap[q12]? = some (.cells #[.string yb.acc, .int .i64 yb.seq, .string yb.den, .int .i64 yb.amt, yb.mv, V9] 34 (0, 0)) := HK2.out.r
    have k1 : w11.cell? ⟨q12, 1, none⟩ = some (.int .i64 p.seq) := (tx_cells hr11).2.1.trans (by rw [show yb.seq = p.seq from congrArg Px.seq HYPb.out])
    have kf := frozen_of_row w11 q12 1 _ _ hr11
    clear hr11
    go_upto_region 12 with (fail)
    rw [HX2.out.1]
    clear k1 kf
    have HK3 := Lib.hid (show BkY wea wgb yb q12 V9 (yb.sg ++ [1]) s2 yb.amt (w11.setCell ⟨q12, 1, none⟩ (.int .i64 s2)) from HK2.out.set 1 (.int .i64 s2) rfl)
    clear HK2
    generalize w11.setCell ⟨q12, 1, none⟩ (.int .i64 s2) = w12 at *
    replace HM := Lib.hid (HMo.out.call HK3.out.b)
    have HMp := HM
    go_upto_region 13 with (first
      | (refine wpList_load_rowT (by rfl) 27 (.tmp 5) rfl p5 0 rfl CX _ (rowT_range HM.out.r) Tryd.underlying27 rfl (by rw [HCX.out.2]; kernel_rfl) ?_)
      | (go_at_call 5; (with_reducible refine (HG.out _ HM.out.x).mono ?_); rintro e wgf ⟨yf, rfl, he, hpp, hff, hown, hdis, hbb⟩; replace HM := Lib.hid (HM.out.call hbb); have HYf := Lib.hid he; have HYPf := Lib.hid (hpp.trans HP.out.symm); have HYFf := Lib.hid hff; have HYOf := Lib.hid hown; have HYDf := Lib.hid hdis; have HYBf := Lib.hid hbb; clear he hpp hff hown hdis hbb)
      | (refine wpList_store_row rfl 34 (.tmp 13) (.tmp 58) rfl wgf.heap.size (trC15 yf) rfl rfl 34 _ (heap_alloc_new _ _) (by rw [trC15_size]; kernel_rfl) (by rw [trC15_size]; rfl) (trC15_one HYf.out.v) ?_; rw [World.setRow_alloc_new]))
    have HZ := Lib.hid (BkY.new (y := yf) HYBf.out HYOf.out)
    obtain ⟨q13, hq⟩ : ∃ z, z = wgf.heap.size := ⟨_, rfl⟩
    rw [← hq] at HZ ⊢
    clear hq HM
    generalize wgf.alloc (.cells (trC15 yf) 34) = w13 at *
    have hr13 : w13.heap[q13]? = some (.cells #[.string yf.acc, .int .i64 yf.seq, .string yf.den, .int .i64 yf.amt, yf.mv, yf.sv] 34 (0, 0)) := HZ.out.r
    have k3 : w13.cell? ⟨q13, 3, none⟩ = some (.int .i64 p.amt) := (tx_cells hr13).2.2.2.2.1.trans (by rw [show yf.amt = p.amt from congrArg Px.amt HYPf.out])
    have kf := frozen_of_row w13 q13 3 _ _ hr13
    clear hr13
    go_upto_region 14 with (fail)
    rw [HX2.out.2]
    clear k3 kf
    have HZ2 := Lib.hid (show BkY w12 wgf yf q13 yf.sv yf.sg yf.seq a2 (w13.setCell ⟨q13, 3, none⟩ (.int .i64 a2)) from HZ.out.set 3 (.int .i64 a2) rfl)
    clear HZ
    generalize w13.setCell ⟨q13, 3, none⟩ (.int .i64 a2) = w14 at *
    have HM := Lib.hid (HMp.out.call HZ2.out.b)
    replace HK3 := Lib.hid (HK3.out.call HZ2.out.b)
    obtain ⟨Y2, hY2⟩ : ∃ z : Tr, z = trW15 yb V9 (yb.sg ++ [1]) s2 yb.amt := ⟨_, rfl⟩
    obtain ⟨Z2, hZ2⟩ : ∃ z : Tr, z = trW15 yf yf.sv yf.sg yf.seq a2 := ⟨_, rfl⟩
    have HT2 := Lib.hid (show TrE w14 Y2 from by rw [hY2]; exact HK3.out.e HYb.out HYDb.out HGL.out)
    have HT3 := Lib.hid (show TrE w14 Z2 from by rw [hZ2]; exact HZ2.out.e HYf.out HYDf.out (by have e : yf.sg = p.sg := congrArg Px.sg HYPf.out; rw [e]; exact Nat.le_trans HPG.out (by unfold maxLen; omega)))
    have HF2 := Lib.hid (show TrFl Y2 from by rw [hY2]; exact ⟨HFX.out.2.2.1, HYFb.out.a, HYFb.out.m⟩)
    have HF3 := Lib.hid (show TrFl Z2 from by rw [hZ2]; exact ⟨HYFf.out.s, HFX.out.2.2.2, HYFf.out.m⟩)
    have hP2 : pxP Y2 = { p with seq := s2, sg := p.sg ++ [1] } := by rw [hY2]; show ({ pxP yb with seq := s2, sg := (pxP yb).sg ++ [1] } : Px) = _; rw [HYPb.out]
    have hP3 : pxP Z2 = { p with amt := a2 } := by rw [hZ2]; show ({ pxP yf with amt := a2 } : Px) = _; rw [HYPf.out]
    have HQ2 := Lib.hid (show (px1 (pxP Y2)).length ≤ 70368744177664 + 100 from by rw [hP2]; exact HL2.out _)
    have HQ3 := Lib.hid (show (px1 (pxP Z2)).length ≤ 70368744177664 + 100 from by rw [hP3]; exact HL3.out)
    have HE2 := Lib.hid (show strOfNums (pxS c (pxP Y2)) = S2 from by rw [hP2, HS2.out])
    have HE3 := Lib.hid (show strOfNums (pxS c (pxP Z2)) = S3 from by rw [hP3, HS3.out])
    have HR2 := Lib.hid (show w14.heap[q12]? = some (.cells (trC15 Y2) 34 (0, 0)) from by rw [hY2]; exact HK3.out.r)
    have HR3 := Lib.hid (show w14.heap[q13]? = some (.cells (trC15 Z2) 34 (0, 0)) from by rw [hZ2]; exact HZ2.out.r)
    clear hY2 hZ2 hP2 hP3 HK3 HZ2 HYb HYPb HYFb HYOb HYDb HYBb HYf HYPf HYFf HYOf HYDf HYBf HMo HMp
    go_wp2_with (first
      | (refine wpList_load_rowT (by rfl) 34 (.tmp 12) rfl q12 0 rfl (trC15 Y2) _ (rowT_range HR2.out) Tryd.underlying34 rfl (by rw [trC15_size]; kernel_rfl) ?_)
      | (go_at_call 8; (with_reducible refine (HBY.out c Y2 _ HCC.out.1 HT2.out HF2.out HQ2.out).mono ?_); rintro e w15 ⟨vb3, rfl, hbi, hbb⟩; replace HM := Lib.hid (HM.out.call hbb); replace HT3 := Lib.hid (HT3.out.below hbb); replace HR3 := Lib.hid ((hbb.block q13 (bkT_lt HR3.out)).trans HR3.out); have hc2 := conv_bytes w15 vb3 _ hbi; rw [HE2.out] at hc2; clear hbi hbb)
      | (refine wpList_load_rowT (by rfl) 34 (.tmp 13) rfl q13 0 rfl (trC15 Z2) _ (rowT_range HR3.out) Tryd.underlying34 rfl (by rw [trC15_size]; kernel_rfl) ?_)
      | (go_at_call 8; (with_reducible refine (HBY.out c Z2 _ HCC.out.1 HT3.out HF3.out HQ3.out).mono ?_); rintro e w16 ⟨vb4, rfl, hbi, hbb⟩; replace HM := Lib.hid (HM.out.call hbb); clear hc2; have hc3 := conv_bytes w16 vb4 _ hbi; rw [HE3.out] at hc3; clear hbi hbb)
      | (refine wpList_load_rowT (by rfl) 27 (.tmp 5) rfl p5 0 rfl CX _ (rowT_range HM.out.r) Tryd.underlying27 rfl (by rw [HCX.out.2]; kernel_rfl) ?_)
      | (go_at_call 5; (with_reducible refine (HG.out _ HM.out.x).mono ?_); rintro e wgg ⟨yg, rfl, he, hpp, hff, hown, hdis, hbb⟩; replace HM := Lib.hid (HM.out.call hbb); have HYg := Lib.hid he; have HYPg := Lib.hid (hpp.trans HP.out.symm); have HYFg := Lib.hid hff; have HYOg := Lib.hid hown; have HYDg := Lib.hid hdis; have HYBg := Lib.hid hbb; clear he hpp hff hown hdis hbb)
      | (go_at_call 8; (with_reducible refine (HBY.out d yg _ HCC.out.2 HYg.out HYFg.out (by rw [HYPg.out]; exact HL.out p.sg)).mono ?_); rintro e w17 ⟨vb5, rfl, hbi, hbb⟩; replace HM := Lib.hid (HM.out.call hbb); clear hc3; rw [HYPg.out] at hbi; have hc4 := conv_bytes w17 vb5 _ hbi; rw [← HS4.out] at hc4; clear hbi hbb)
      | (go_at_call 9; (with_reducible refine (HSU.out _ HM.out.t).mono ?_); rintro e w18 ⟨rfl, hbb⟩; replace HM := Lib.hid (HM.out.call hbb); clear hbb))
    go_ret
    exact ⟨rfl, HM.out.b⟩

end Go.Proofs.YtllpnpeppdfjlaaDoor

/- CoinWays: the walk. -/
import Derived.Test.YteokgklfljhcaaaDoorCnI
import Derived.Test.YteokgklfljhcaaaDoorCnU
import Derived.Test.YteokgklfljhcaaaDoorKeep
namespace Go.Proofs.YteokgklfljhcaaaDoor
open Go.RowKit
set_option maxRecDepth 100000
set_option linter.unusedSimpArgs false
set_option linter.unusedVariables false
theorem wpList_load_rowG {P : Program} {ops : Array Oper} {rest : List Oper} {o : Oper} {a : Act} {w : World} {Q : Exit → Act → World → Prop} (hgd : Region.wanted o (yielded ops a.tmps) = true) (ty : TypeId) (x : Operand) (ho : o.op = .load ty x)
    (g : Nat) (hx : a.eval x = .pointer (some ⟨g, 0, none⟩)) (t : TypeId) (cs : Array Value) (fr : Nat × Nat) (d : TypeDesc) (hg : w.heap[g]? = some (.cells cs t fr))
    (hu : P.underlying ty = some d) (hd : (match d with | .struct _ | .array _ _ => true | _ => false) = true) (hi : (P.info? ty).map (·.size) = some cs.size)
    (h : wpList P ops Q rest (a.put o.dst (.agg cs)) w) : wpList P ops Q (o :: rest) a w :=
  BigFrame.wpList_want hgd fun _ hK => wp_load_row ty x ho g hx t cs fr d hg hu hd hi (hK _ _ h)
/-- a trace in a block -/
structure TrV (T : TypeId) (g : Nat) (v : Value) (b : ByteArray) (l : List ByteArray) (w : World) : Prop where
  r : w.heap[g]? = some (.cells (trC v b) T (0, 0))
  s : SsIn w v l
theorem kept_trv (T : TypeId) (g : Nat) (v : Value) (b : ByteArray) (l : List ByteArray) : Kept (TrV T g v b l) := fun _ _ m h => ⟨(h.block _ (hlt14 m.r)).trans m.r, m.s.below h⟩
def SsV (v : Value) (l : List ByteArray) (w : World) : Prop := SsIn w v l
theorem kept_ssv (v : Value) (l : List ByteArray) : Kept (SsV v l) := fun _ _ m h => SsIn.below m h
theorem SsIn.sl {w : World} {v : Value} {l : List ByteArray} (h : SsIn w v l) : ∃ a n c, v = .slice a n c := by
  obtain ⟨a, c, e, -⟩ := h
  exact ⟨_, _, _, e⟩
set_option maxHeartbeats 8000000 in
theorem lcways_any (t : List ByteArray) (b p c : ByteArray) (pv : Value) (w : World) (hg : ErrType w) (hp : SsIn w pv t) (hl : t.length ≤ 8796093022207) (hs : ∀ s ∈ t, s.size ≤ 9223372036854775806) (hb : b.size ≤ 9223372036854775807) (hps : p.size ≤ 9223372036854775807) (hcs : c.size ≤ 9223372036854775807) :
    Calls Tryd.prog 6 #[.agg (trC pv b), .string p, .string c] w fun e w' => e = .returned (.bool true) ∧ Below w.heap.size w w' := by
  have HG := Lib.hid hg
  have HSU := Lib.hid csure_any
  have HGV := Lib.hid (fun v w h => lgive_any t b v w h (by omega))
  have HIN := Lib.hid (fun v w h => cinto_any t b p c v w h (by omega) hs hb)
  have HRI := Lib.hid (fun v w h => rinto_any t b p c v w h (by omega) hs hb hps hcs)
  have HFR := Lib.hid (fun v w h => cfrom_any t b p c v w h (by omega))
  have HRF := Lib.hid (fun v w h => rfrom_any t b p c v w h (by omega) hps hcs)
  have HPO := Lib.hid (fun w => cport_any p c w)
  have HRP := Lib.hid (fun w => rport_any p c w hps hcs)
  have HSM := Lib.hid (fun l b va vb w h1 h2 => lsame14_any l b va vb w h1 h2)
  have HNU := Lib.hid (fun w h => num_any (intoE t b p c) w h)
  unfold FromP at HFR HRF
  obtain ⟨E, hE⟩ : ∃ e, e = errV (intoE t b p c) := ⟨_, rfl⟩
  obtain ⟨F, hF⟩ : ∃ e, e = numE (intoE t b p c) := ⟨_, rfl⟩
  obtain ⟨XP, hXP⟩ : ∃ e, e = intoP t b p c := ⟨_, rfl⟩
  obtain ⟨XB, hXB⟩ : ∃ e, e = intoB t b p c := ⟨_, rfl⟩
  obtain ⟨UP, hUP⟩ : ∃ e, e = fromP t p c := ⟨_, rfl⟩
  obtain ⟨CM, hCM⟩ : ∃ e, e = cameB t p c := ⟨_, rfl⟩
  obtain ⟨R, hR⟩ : ∃ e, e = portR p c := ⟨_, rfl⟩
  rw [← hE, ← hXP, ← hXB] at HIN
  rw [← hF, ← hXP, ← hXB] at HRI
  rw [← hE, ← hF] at HNU
  rw [← hUP, ← hCM] at HFR HRF
  rw [← hR] at HPO HRP
  have kR := beq14 R R
  rw [decide_eq_true rfl] at kR
  have kCM : (CM == CM) = true := by simp
  obtain ⟨pa, pc, rfl, -, -⟩ := id hp
  obtain ⟨n, hn⟩ : ∃ n, n = t.length := ⟨_, rfl⟩
  rw [← hn] at hp ⊢
  have hba := below_alloc w (.cells (trC (.slice pa n pc) b) 34)
  have M := Lib.hid (show Kp w (w.alloc (.cells (trC (.slice pa n pc) b) 34)) (TrV 34 w.heap.size (.slice pa n pc) b t) from ⟨hba, ⟨heap_alloc_new _ _, hp.below hba⟩, kept_trv _ _ _ _ _⟩)
  clear hg hp hl hs hb hps hcs hE hF hXP hXB hUP hCM hR hn hba
  go_enter Tryd.func6, Tryd.ntmps6
  go_upto_region 1 with (fail)
  obtain ⟨q, hq⟩ : ∃ q, q = w.heap.size := ⟨_, rfl⟩
  rw [← hq] at M ⊢
  clear hq
  generalize w.alloc (.cells (trC (.slice pa n pc) b) 34) = w1 at *
  go_upto_region 2 with (first
    | (refine wpList_load_row rfl 34 (.tmp 3) rfl q rfl 34 _ (0, 0) _ M.out.x.r Tryd.underlying34 rfl (by kernel_rfl) ?_)
    | (go_at_call 14; (with_reducible refine (HGV.out _ _ M.out.x.s).mono ?_); rintro e w2 ⟨v1, rfl, h1, hb⟩; have H1 := Lib.hid h1; replace M := Lib.hid (M.out.call hb); clear h1 hb)
    | (go_at_call 13; (with_reducible refine (HIN.out _ _ H1.out).mono ?_); rintro e w3 ⟨xv, rfl, h2, hb⟩; obtain ⟨xa, xl, xc, rfl⟩ := h2.sl; have HX := Lib.hid h2; replace M := Lib.hid (M.out.call hb); clear h2 hb H1)
    | (refine wpList_store_row rfl 35 (.tmp 7) (.tmp 21) rfl w3.heap.size (trC (.slice xa xl xc) XB) rfl rfl 35 _ (heap_alloc_new _ _) (by kernel_rfl) (by rfl) (trC_one _ _ _ _) ?_; rw [World.setRow_alloc_new]))
  replace M := Lib.hid ((M.out.call (below_alloc w3 (.cells (trC (.slice xa xl xc) XB) 35))).add (Y := TrV 35 w3.heap.size (.slice xa xl xc) XB XP) ⟨heap_alloc_new _ _, HX.out.below (below_alloc _ _)⟩ (kept_trv _ _ _ _ _))
  clear HX
  obtain ⟨g7, hg7⟩ : ∃ g, g = w3.heap.size := ⟨_, rfl⟩
  rw [← hg7] at M ⊢
  clear hg7
  generalize w3.alloc (.cells (trC (.slice xa xl xc) XB) 35) = w4 at *
  go_upto_region 3 with (first
    | (refine wpList_load_row rfl 34 (.tmp 3) rfl q rfl 34 _ (0, 0) _ M.out.x.1.r Tryd.underlying34 rfl (by kernel_rfl) ?_)
    | (go_at_call 21; (with_reducible refine (HRI.out _ _ M.out.x.1.s).mono ?_); rintro e w5 ⟨yv, rfl, h2, hb⟩; obtain ⟨ya, yl, yc, rfl⟩ := h2.sl; have HX := Lib.hid h2; replace M := Lib.hid (M.out.call hb); clear h2 hb)
    | (refine wpList_store_row rfl 34 (.tmp 9) (.tmp 28) rfl w5.heap.size (trC (.slice ya yl yc) XB) rfl rfl 34 _ (heap_alloc_new _ _) (by kernel_rfl) (by rfl) (trC_one _ _ _ _) ?_; rw [World.setRow_alloc_new]))
  replace M := Lib.hid ((M.out.call (below_alloc w5 (.cells (trC (.slice ya yl yc) XB) 34))).add (Y := TrV 34 w5.heap.size (.slice ya yl yc) XB XP) ⟨heap_alloc_new _ _, HX.out.below (below_alloc _ _)⟩ (kept_trv _ _ _ _ _))
  clear HX
  obtain ⟨g9, hg9⟩ : ∃ g, g = w5.heap.size := ⟨_, rfl⟩
  rw [← hg9] at M ⊢
  clear hg9
  generalize w5.alloc (.cells (trC (.slice ya yl yc) XB) 34) = w6 at *
  go_upto_region 4 with (first
    | (refine wpList_load_row rfl 34 (.tmp 3) rfl q rfl 34 _ (0, 0) _ M.out.x.1.1.r Tryd.underlying34 rfl (by kernel_rfl) ?_)
    | (go_at_call 14; (with_reducible refine (HGV.out _ _ M.out.x.1.1.s).mono ?_); rintro e w7 ⟨v1, rfl, h1, hb⟩; have H1 := Lib.hid h1; replace M := Lib.hid (M.out.call hb); clear h1 hb)
    | (go_at_call 15; (with_reducible refine (HFR.out _ _ H1.out).mono ?_); rintro e w8 ⟨uv, rfl, h2, hb⟩; obtain ⟨ua, ul, uc, rfl⟩ := h2.sl; have HX := Lib.hid h2; replace M := Lib.hid (M.out.call hb); clear h2 hb H1)
    | (refine wpList_store_row rfl 35 (.tmp 11) (.tmp 36) rfl w8.heap.size (trC (.slice ua ul uc) b) rfl rfl 35 _ (heap_alloc_new _ _) (by kernel_rfl) (by rfl) (trC_one _ _ _ _) ?_; rw [World.setRow_alloc_new]))
  replace M := Lib.hid ((M.out.call (below_alloc w8 (.cells (trC (.slice ua ul uc) b) 35))).add (Y := TrV 35 w8.heap.size (.slice ua ul uc) b UP) ⟨heap_alloc_new _ _, HX.out.below (below_alloc _ _)⟩ (kept_trv _ _ _ _ _))
  clear HX
  obtain ⟨g11, hg11⟩ : ∃ g, g = w8.heap.size := ⟨_, rfl⟩
  rw [← hg11] at M ⊢
  clear hg11
  generalize w8.alloc (.cells (trC (.slice ua ul uc) b) 35) = w9 at *
  go_upto_region 5 with (first
    | (refine wpList_load_row rfl 34 (.tmp 3) rfl q rfl 34 _ (0, 0) _ M.out.x.1.1.1.r Tryd.underlying34 rfl (by kernel_rfl) ?_)
    | (go_at_call 22; (with_reducible refine (HRF.out _ _ M.out.x.1.1.1.s).mono ?_); rintro e w10 ⟨vv, rfl, h2, hb⟩; obtain ⟨va, vl, vc, rfl⟩ := h2.sl; have HX := Lib.hid h2; replace M := Lib.hid (M.out.call hb); clear h2 hb)
    | (refine wpList_store_row rfl 34 (.tmp 13) (.tmp 43) rfl w10.heap.size (trC (.slice va vl vc) b) rfl rfl 34 _ (heap_alloc_new _ _) (by kernel_rfl) (by rfl) (trC_one _ _ _ _) ?_; rw [World.setRow_alloc_new]))
  replace M := Lib.hid ((M.out.call (below_alloc w10 (.cells (trC (.slice va vl vc) b) 34))).add (Y := TrV 34 w10.heap.size (.slice va vl vc) b UP) ⟨heap_alloc_new _ _, HX.out.below (below_alloc _ _)⟩ (kept_trv _ _ _ _ _))
  clear HX
  obtain ⟨g13, hg13⟩ : ∃ g, g = w10.heap.size := ⟨_, rfl⟩
  rw [← hg13] at M ⊢
  clear hg13
  generalize w10.alloc (.cells (trC (.slice va vl vc) b) 34) = w11 at *
  cases CM <;>
  · go_wp2_with (first
      | (refine wpList_load_rowG (by rfl) 35 (.tmp 7) rfl g7 rfl 35 _ (0, 0) _ M.out.x.1.1.1.2.r Tryd.underlying35 rfl (by kernel_rfl) ?_)
      | (refine wpList_load_rowG (by rfl) 34 (.tmp 9) rfl g9 rfl 34 _ (0, 0) _ M.out.x.1.1.2.r Tryd.underlying34 rfl (by kernel_rfl) ?_)
      | (refine wpList_load_rowG (by rfl) 35 (.tmp 11) rfl g11 rfl 35 _ (0, 0) _ M.out.x.1.2.r Tryd.underlying35 rfl (by kernel_rfl) ?_)
      | (refine wpList_load_rowG (by rfl) 34 (.tmp 13) rfl g13 rfl 34 _ (0, 0) _ M.out.x.2.r Tryd.underlying34 rfl (by kernel_rfl) ?_)
      | (go_at_call 16; (with_reducible refine (HSM.out _ _ _ _ _ M.out.x.1.1.1.2.s M.out.x.1.1.2.s).mono ?_); rintro e w12 ⟨rfl, hb⟩; replace M := Lib.hid (M.out.call hb); clear hb)
      | (go_at_call 16; (with_reducible refine (HSM.out _ _ _ _ _ M.out.x.1.2.s M.out.x.2.s).mono ?_); rintro e w13 ⟨rfl, hb⟩; replace M := Lib.hid (M.out.call hb); clear hb)
      | (go_at_call 8; (with_reducible refine (HNU.out _ (HG.out.below M.out.below)).mono ?_); rintro e w14 ⟨rfl, hb⟩; replace M := Lib.hid (M.out.call hb); clear hb)
      | (go_at_call 23; (with_reducible refine (HPO.out _).mono ?_); rintro e w15 ⟨rfl, hb⟩; replace M := Lib.hid (M.out.call hb); clear hb)
      | (go_at_call 24; (with_reducible refine (HRP.out _).mono ?_); rintro e w16 ⟨rfl, hw⟩; obtain rfl := hw.symm)
      | (go_at_call 9; (with_reducible refine (HSU.out _).mono ?_); rintro e w17 ⟨rfl, hb⟩; replace M := Lib.hid (M.out.call hb); clear hb))
    go_ret
    exact ⟨rfl, M.out.below⟩
end Go.Proofs.YteokgklfljhcaaaDoor

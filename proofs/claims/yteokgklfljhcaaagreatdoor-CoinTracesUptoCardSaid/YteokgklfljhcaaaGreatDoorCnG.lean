/- coin: the law's give and same. -/
import Derived.Test.YteokgklfljhcaaaGreatDoorCnQ
namespace Go.Proofs.YteokgklfljhcaaaGreatDoor
open Go.RowKit
set_option maxRecDepth 100000
set_option linter.unusedSimpArgs false
set_option linter.unusedVariables false
theorem results_cell1_row {P : Program} {fn : Func} {p : Tmp} {ty : TypeId} (h : fn.results = #[.cell p ty]) (tmps : Array Value) (w : World) (g : Nat) (t : TypeId) (cs : Array Value) (fr : Nat × Nat) (d : TypeDesc)
    (hp : tmps.getD p undef = .pointer (some ⟨g, 0, none⟩)) (hg : w.heap[g]? = some (.cells cs t fr))
    (hu : P.underlying ty = some d) (hd : (match d with | .struct _ | .array _ _ => true | _ => false) = true) (hi : (P.info? ty).map (·.size) = some cs.size) :
    (results fn tmps).run P w = .ok (.agg cs) w := by
  have hp' : tmps[p]?.getD undef = .pointer (some ⟨g, 0, none⟩) := by simpa using hp
  simp [results, h, hp', asAddr, run_loadVar_row w g t ty cs fr d hg hu hd hi]
/-- what lies in memory: the argument's block q, the result's, the new trace's -/
structure GvM (w : World) (q : Nat) (pv : Value) (b : ByteArray) (cs : Array Value) (wr : World) : Prop where
  at_ : wr.heap[q]? = some (.cells (trC pv b) 62 (0, 0))
  res : wr.heap[q + 1]? = some (.cells (trC (.slice none 0 0) { data := #[] }) 65 (0, 0))
  x : wr.heap[q + 2]? = some (.cells cs 65 (0, 0))
  below : Below w.heap.size w wr
  q0 : w.heap.size ≤ q
theorem GvM.grow {w : World} {q : Nat} {pv : Value} {b : ByteArray} {cs : Array Value} {wr wr' : World} (m : GvM w q pv b cs wr) {own : Option Nat} (hg : wr.grownBy wr' own) (ho : ∀ k, own = some k → q + 2 < k) : GvM w q pv b cs wr' :=
  ⟨(hg.block q (hlt14 m.at_) (fun e => by have := ho q e.symm; omega)).trans m.at_, (hg.block (q + 1) (hlt14 m.res) (fun e => by have := ho (q + 1) e.symm; omega)).trans m.res, (hg.block (q + 2) (hlt14 m.x) (fun e => by have := ho (q + 2) e.symm; omega)).trans m.x, m.below.trans ⟨hg.os, hg.tape, hg.output, hg.size, fun k hk => hg.block k (Nat.lt_of_lt_of_le hk m.below.size) (fun e => by have := ho k e.symm; have := m.q0; omega)⟩, m.q0⟩
theorem GvM.put {w : World} {q : Nat} {pv : Value} {b : ByteArray} {cs cs' : Array Value} {wr wr' : World} (m : GvM w q pv b cs wr) (ho : Only (q + 2) wr wr') (h : wr'.heap[q + 2]? = some (.cells cs' 65 (0, 0))) : GvM w q pv b cs' wr' :=
  ⟨(ho.block q (hlt14 m.at_) (by omega)).trans m.at_, (ho.block (q + 1) (hlt14 m.res) (by omega)).trans m.res, h, m.below.trans (ho.below (by have := m.q0; omega) m.below.size), m.q0⟩
theorem gv_start {w w1 : World} {pv : Value} {b : ByteArray} (h : (w.alloc (.cells (trC pv b) 62)).alloc (.cells (trC (.slice none 0 0) { data := #[] }) 65) = w1) (cs : Array Value) : GvM w w.heap.size pv b cs (w1.alloc (.cells cs 65)) ∧ w1.heap.size = w.heap.size + 2 := by
  subst h
  have b1 := below_alloc w (.cells (trC pv b) 62)
  have b2 := below_alloc (w.alloc (.cells (trC pv b) 62)) (.cells (trC (.slice none 0 0) { data := #[] }) 65)
  have h2 := heap_alloc_new (w.alloc (.cells (trC pv b) 62)) (.cells (trC (.slice none 0 0) { data := #[] }) 65)
  have s1 : (w.alloc (.cells (trC pv b) 62)).heap.size = w.heap.size + 1 := by simp
  rw [s1] at h2
  generalize hW : (w.alloc (.cells (trC pv b) 62)).alloc (.cells (trC (.slice none 0 0) { data := #[] }) 65) = W at *
  have s2 : W.heap.size = w.heap.size + 2 := by rw [← hW]; simp
  have b3 := below_alloc W (.cells cs 65)
  have h3 := heap_alloc_new W (.cells cs 65)
  rw [s2] at h3
  have g1 := (b2.block w.heap.size (by omega)).trans (heap_alloc_new w (.cells (trC pv b) 62))
  exact ⟨⟨(b3.block _ (by omega)).trans g1, (b3.block _ (by omega)).trans h2, h3, (b1.trans (b2.mono (by omega))).trans (b3.mono (by omega)), Nat.le_refl _⟩, s2⟩
theorem trC_put {w : World} {g : Nat} {u v : Value} {b : ByteArray} {T : TypeId} (h : w.heap[g]? = some (.cells (trC u b) T (0, 0))) : (w.setCell ⟨g, 0, none⟩ v).heap[g]? = some (.cells (trC v b) T (0, 0)) := by
  rw [heap_setCell_same w g 0 _ _ v h]; rfl
theorem lgive_any (t : List ByteArray) (b : ByteArray) (pv : Value) (w : World) (hp : SsIn w pv t) (hl : t.length ≤ 8796093022208) :
    Calls Tryz.prog 31 #[.agg (trC pv b)] w fun e w' => ∃ pv', e = .returned (.agg (trC pv' b)) ∧ SsIn w' pv' t ∧ Below w.heap.size w w' := by
  obtain ⟨pa, pc, rfl, -, -⟩ := id hp
  have HP := Lib.hid hp
  have HLN := Lib.hid hl
  obtain ⟨n, hn⟩ : ∃ n, n = t.length := ⟨_, rfl⟩
  rw [← hn] at HP ⊢
  have HST := Lib.hid (fun w1 h cs => gv_start (w := w) (w1 := w1) (pv := .slice pa n pc) (b := b) h cs)
  clear hp hl hn
  go_enter Tryz.func31, Tryz.ntmps31
  go_upto_region 1 with (fail)
  generalize hA : World.alloc (World.alloc w _) _ = w1
  have M := Lib.hid (HST.out w1 hA (trC (.slice none 0 0) b)).1
  have HS := Lib.hid (HST.out w1 hA (trC (.slice none 0 0) b)).2
  have c1 : w1.cell? ⟨w.heap.size, 1, none⟩ = some (.string b) := by
    have h := (HST.out w1 hA (trC (.slice none 0 0) b)).1.at_
    have h2 := (below_alloc w1 (.cells (trC (.slice none 0 0) b) 65)).block w.heap.size (by have := HS.out; omega)
    rw [h2] at h
    exact cell_of_row _ _ _ _ _ _ h
  clear hA HST
  go_upto_region 2 with (first
    | (refine wpList_store_row rfl 65 (.tmp 3) (.tmp 6) rfl w1.heap.size (trC (.slice none 0 0) b) rfl rfl 65 _ (heap_alloc_new _ _) (by kernel_rfl) (by rfl) (trC_one _ _ _ _) ?_; rw [World.setRow_alloc_new]))
  clear c1
  rw [HS.out]
  obtain ⟨q, hq⟩ : ∃ q, q = w.heap.size := ⟨_, rfl⟩
  have hq1 : w.heap.size + 1 = q + 1 := by rw [hq]
  have hq2 : w.heap.size + 2 = q + 2 := by rw [hq]
  rw [← hq] at M ⊢
  clear hq hq1 hq2 HS
  generalize w1.alloc (.cells (trC (.slice none 0 0) b) 65) = w2 at *
  replace HP := Lib.hid (HP.out.below M.out.below)
  have c0 : w2.cell? ⟨q, 0, none⟩ = some (.slice pa n pc) := cell_of_row _ _ _ _ _ _ M.out.at_
  have d0 : w2.cell? ⟨q + 2, 0, none⟩ = some (.slice none 0 0) := cell_of_row _ _ _ _ _ _ M.out.x
  go_upto_region 3 with (at_builtin; refine wpList_append_ss rfl (.tmp 8) (.tmp 10) rfl rfl w2.heap.size (.slice none 0 0) (.slice pa n pc) [] t rfl (World.ownsRow_nil _ _ _ _) rfl HP.out (by have := HLN.out; simpa using this) (Nat.le_refl _) ?_; intro v3 w3 ho hg hw; rw [List.nil_append] at ho; obtain ⟨va, vl, vc, rfl⟩ : ∃ a n c, v3 = .slice a n c := own_sl14 ho; have HI := Lib.hid (ss_own ho (Nat.le_trans HLN.out (show (8796093022208 : Nat) ≤ maxLen from by simp [maxLen]))); have HO := Lib.hid (fun k (hk : (Value.slice va vl vc).ownBlock = some k) => ho.lt k hk); have HQ := Lib.hid (show q + 2 < w2.heap.size from hlt14 M.out.x); replace M := Lib.hid (M.out.grow hg (fun k hk => by cases hk)); have k0 : w3.cell? ⟨q + 2, 0, none⟩ = some (.slice none 0 0) := cell_of_row _ _ _ _ _ _ M.out.x; have k1 : w3.frozen? ⟨q + 2, 0, none⟩ = false := frozen_of_row _ _ _ _ _ M.out.x; clear ho hg hw)
  clear k0 k1 c0 d0
  have ho := Only.setCell w3 ⟨q + 2, 0, none⟩ (.slice va vl vc)
  replace HI := Lib.hid (HI.out.only ho (fun k hk => by have := (HO.out k hk).1; have := HQ.out; show k ≠ q + 2; omega))
  replace M := Lib.hid (M.out.put ho (trC_put M.out.x))
  clear ho
  generalize w3.setCell ⟨q + 2, 0, none⟩ (.slice va vl vc) = w4 at *
  go_wp2_with (first
    | (refine wpList_load_row rfl 65 (.tmp 3) rfl (q + 2) rfl 65 _ (0, 0) _ M.out.x Tryz.underlying65 rfl (by kernel_rfl) ?_)
    | (refine wpList_store_row rfl 65 (.tmp 2) (.tmp 13) rfl (q + 1) (trC (.slice va vl vc) b) rfl rfl 65 _ M.out.res (by kernel_rfl) (by rfl) (trC_one _ _ _ _) ?_))
  refine bodyPost_ret (results_cell1_row rfl _ _ (q + 1) 65 _ (0, 0) _ rfl (setRow_heap _ _ _ _ _ _ M.out.res) Tryz.underlying65 rfl (by kernel_rfl)) rfl ?_
  have hk := M.out.q0
  exact ⟨.slice va vl vc, rfl, HI.out.only (only_setRow14 _ _ _) (fun k hk => by have := (HO.out k hk).1; have := HQ.out; omega), below_setRow M.out.below (by omega) _⟩
/-- two traces' blocks -/
structure SmM (w : World) (q : Nat) (va vb : Value) (b : ByteArray) (t : List ByteArray) (wr : World) : Prop where
  x : wr.heap[q]? = some (.cells (trC va b) 65 (0, 0))
  y : wr.heap[q + 1]? = some (.cells (trC vb b) 62 (0, 0))
  sx : SsIn wr va t
  sy : SsIn wr vb t
  below : Below w.heap.size w wr
theorem SmM.call {w : World} {q : Nat} {va vb : Value} {b : ByteArray} {t : List ByteArray} {wr wr' : World} (m : SmM w q va vb b t wr) (hb : Below wr.heap.size wr wr') : SmM w q va vb b t wr' :=
  ⟨(hb.block _ (hlt14 m.x)).trans m.x, (hb.block _ (hlt14 m.y)).trans m.y, m.sx.below hb, m.sy.below hb, m.below.trans (hb.mono m.below.size)⟩
theorem SsIn.get {w : World} {a : Option Addr} {n c : Nat} {l : List ByteArray} (h : SsIn w (.slice a n c) l) {k : Nat} {s : ByteArray} (hk : l[k]? = some s) : ∃ ab ao, a = some ⟨ab, ao, none⟩ ∧ w.cell? ⟨ab, ao + k, none⟩ = some (.string s) := by
  obtain ⟨a', c', e, -, -, h3⟩ := h
  injection e with e1 e2 e3
  subst e1
  rcases h3 with h3 | ⟨ab, ao, rfl, -, hx⟩
  · rw [h3] at hk; cases hk
  · exact ⟨ab, ao, rfl, hx k s hk⟩
theorem lsame14_any (t : List ByteArray) (b : ByteArray) (va vb : Value) (w : World) (ha : SsIn w va t) (hb : SsIn w vb t) :
    Calls Tryz.prog 38 #[.agg (trC va b), .agg (trC vb b)] w fun e w' => e = .returned (.bool true) ∧ Below w.heap.size w w' := by
  obtain ⟨xa, xc, rfl, -, hxm, -⟩ := id ha
  obtain ⟨ya, yc, rfl, -⟩ := id hb
  have HA := Lib.hid ha
  have HB := Lib.hid hb
  obtain ⟨n, hn⟩ : ∃ n, n = t.length := ⟨_, rfl⟩
  have HN := Lib.hid hn
  have hnI : (n : Int) ≤ 9223372036854775807 := by unfold maxLen at hxm; omega
  rw [← hn] at HA HB ⊢
  clear ha hb hn hxm
  have kb := beq14 b b
  rw [decide_eq_true rfl] at kb
  go_enter Tryz.func38, Tryz.ntmps38
  go_upto_region 1 with (fail)
  have M := Lib.hid (show SmM w w.heap.size (.slice xa n xc) (.slice ya n yc) b t ((w.alloc (.cells (trC (.slice xa n xc) b) 65)).alloc (.cells (trC (.slice ya n yc) b) 62)) from by
    have b1 := below_alloc w (.cells (trC (.slice xa n xc) b) 65)
    have b2 := below_alloc (w.alloc (.cells (trC (.slice xa n xc) b) 65)) (.cells (trC (.slice ya n yc) b) 62)
    have h2 := heap_alloc_new (w.alloc (.cells (trC (.slice xa n xc) b) 65)) (.cells (trC (.slice ya n yc) b) 62)
    rw [show (w.alloc (.cells (trC (.slice xa n xc) b) 65)).heap.size = w.heap.size + 1 from by simp] at h2
    have bb := b1.trans (b2.mono (by simp))
    exact ⟨(b2.block _ (by simp)).trans (heap_alloc_new _ _), h2, HA.out.below bb, HB.out.below bb, bb⟩)
  clear HA HB
  obtain ⟨q, hq⟩ : ∃ q, q = w.heap.size := ⟨_, rfl⟩
  have hq1 : w.heap.size + 1 = q + 1 := by rw [hq]
  generalize (w.alloc (.cells (trC (.slice xa n xc) b) 65)).alloc (.cells (trC (.slice ya n yc) b) 62) = w1 at *
  rw [← hq] at M ⊢
  clear hq hq1
  have c0 : w1.cell? ⟨q, 0, none⟩ = some (.slice xa n xc) := cell_of_row _ _ _ _ _ _ M.out.x
  have c1 : w1.cell? ⟨q, 1, none⟩ = some (.string b) := cell_of_row _ _ _ _ _ _ M.out.x
  have d0 : w1.cell? ⟨q + 1, 0, none⟩ = some (.slice ya n yc) := cell_of_row _ _ _ _ _ _ M.out.y
  have d1 : w1.cell? ⟨q + 1, 1, none⟩ = some (.string b) := cell_of_row _ _ _ _ _ _ M.out.y
  go_upto_region 4 with (fail)
  clear c0 c1 d0 d1
  go_loopw [5] (fun x wr => ∃ k : Nat, k ≤ n ∧ x = .int .i64 (k : Int) ∧ Hid (SmM w q (.slice xa n xc) (.slice ya n yc) b t wr)) (fun x _ => n - (intOf x).toNat)
  case atStart => exact ⟨0, Nat.zero_le _, rfl, M⟩
  case round =>
    clear M
    obtain ⟨k, hkn, rfl, M⟩ := hrel
    have c0 : wr.cell? ⟨q, 0, none⟩ = some (.slice xa n xc) := cell_of_row _ _ _ _ _ _ M.out.x
    by_cases hlt : k < n
    · have hltI : (k : Int) < (n : Int) := by omega
      obtain ⟨s, hs⟩ : ∃ s, t[k]? = some s := ⟨t[k]'(by have := HN.out; omega), List.getElem?_eq_getElem _⟩
      obtain ⟨ab, ao, rfl, hx⟩ := M.out.sx.get hs
      obtain ⟨ab2, ao2, rfl, hy⟩ := M.out.sy.get hs
      have ks := beq14 s s
      rw [decide_eq_true rfl] at ks
      have d0 : wr.cell? ⟨q + 1, 0, none⟩ = some (.slice (some ⟨ab2, ao2, none⟩) n yc) := cell_of_row _ _ _ _ _ _ M.out.y
      clear hs
      go_upto_region 6 with (fail)
      replace M := Lib.hid (M.out.call (Below.refl _ wr).drew)
      go_region
      clear c0 d0 hx hy
      go_wp2_with (fail)
      go_roundw
      case rel => exact ⟨k + 1, by omega, by go_num, M⟩
      case measure => simp [intOf]; omega
    · obtain rfl : k = n := by omega
      go_wp2_with (fail)
      go_ret
      exact ⟨rfl, M.out.below⟩
end Go.Proofs.YteokgklfljhcaaaGreatDoor

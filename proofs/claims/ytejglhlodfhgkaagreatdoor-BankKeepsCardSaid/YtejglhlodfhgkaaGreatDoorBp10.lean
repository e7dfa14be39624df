/- Part 10 of the proof. -/
import Derived.Test.YtejglhlodfhgkaaGreatDoorBp9
namespace Go.Proofs.YtejglhlodfhgkaaGreatDoor
set_option linter.unusedVariables false
set_option linter.unusedSimpArgs false
open Go.RowKit
set_option maxRecDepth 100000
set_option linter.unusedSimpArgs false
set_option linter.unusedVariables false
/-- what lies in memory: some trees -/
structure TM (w0 w : World) (L : List (Nat × AvT)) : Prop where
  below : Below w0.heap.size w0 w
  env : Env w
  trees : ∀ x ∈ L, TreeAt w x.1 x.2
theorem TM.call {w0 w w2 : World} {L : List (Nat × AvT)} (m : TM w0 w L) (hb : Below w.heap.size w w2) : TM w0 w2 L :=
  ⟨m.below.trans (hb.mono m.below.size), m.env.below hb m.env.lt, fun x hx => (m.trees x hx).below hb⟩
theorem TM.add {w0 w w2 : World} {L : List (Nat × AvT)} {g : Nat} {t : AvT} (m : TM w0 w L) (ht : TreeAt w2 g t) (hb : Below w.heap.size w w2) : TM w0 w2 ((g, t) :: L) := by
  have m' := m.call hb
  refine ⟨m'.below, m'.env, fun x hx => ?_⟩
  rcases List.mem_cons.1 hx with rfl | hx
  · exact ht
  · exact m'.trees x hx
theorem TM.hd {w0 w : World} {L : List (Nat × AvT)} {g : Nat} {t : AvT} (m : TM w0 w ((g, t) :: L)) : TreeAt w g t := m.trees (g, t) (List.mem_cons_self ..)
def NewT (t : AvT) (w : World) (e : Ending) (w' : World) : Prop := ∃ g, e = .returned (.pointer (some ⟨g, 0, none⟩)) ∧ TreeAt w' g t ∧ Below w.heap.size w w'
theorem mkNode_new (ga gb : Nat) (a b : AvT) (w : World) (he : Env w) (h1 : TreeAt w ga a) (h2 : TreeAt w gb b) (hm : a.many + b.many ≤ 4611686018427387904) :
    Calls Tryz.prog 160 #[.pointer (some ⟨ga, 0, none⟩), .pointer (some ⟨gb, 0, none⟩)] w (NewT (.node a b) w) := mkNode_any ga gb a b w he h1 h2 hm
theorem mkLeaf_new (k v : ByteArray) (w : World) (he : Env w) (hs : k.size + v.size ≤ 140737488351232) : Calls Tryz.prog 159 #[.string k, .string v] w (NewT (.leaf k v) w) := mkLeaf_any k v w he hs
theorem TreeAt.height {w : World} {g : Nat} {t : AvT} (h : TreeAt w g t) : w.cell? ⟨g, 3, none⟩ = some (.int .i64 (t.height : Int)) := by
  obtain ⟨p, q, h⟩ := h.cells
  exact (t_cells h).2.2.2.1
theorem TreeAt.least {w : World} {g : Nat} {t : AvT} (h : TreeAt w g t) : w.cell? ⟨g, 0, none⟩ = some (.string t.least) := by
  obtain ⟨p, q, h⟩ := h.cells
  exact (t_cells h).1
theorem TreeAt.value {w : World} {g : Nat} {t : AvT} (h : TreeAt w g t) : w.cell? ⟨g, 1, none⟩ = some (.string t.value) := by
  obtain ⟨p, q, h⟩ := h.cells
  exact (t_cells h).2.1
theorem TreeAt.many {w : World} {g : Nat} {t : AvT} (h : TreeAt w g t) : w.cell? ⟨g, 2, none⟩ = some (.int .i64 (t.many : Int)) := by
  obtain ⟨p, q, h⟩ := h.cells
  exact (t_cells h).2.2.1
theorem TreeAt.kidsL {w : World} {g : Nat} {a b : AvT} (h : TreeAt w g (.node a b)) : ∃ ga gb, ga < g ∧ gb < g ∧ w.cell? ⟨g, 36, none⟩ = some (.pointer (some ⟨ga, 0, none⟩)) ∧ w.cell? ⟨g, 37, none⟩ = some (.pointer (some ⟨gb, 0, none⟩)) ∧ TreeAt w ga a ∧ TreeAt w gb b := by
  obtain ⟨ga, gb, hl, h, h1, h2⟩ := h
  exact ⟨ga, gb, hl.1, hl.2, (t_cells h).2.2.2.2.1, (t_cells h).2.2.2.2.2.1, h1, h2⟩
theorem TreeAt.kids {w : World} {g : Nat} {a b : AvT} (h : TreeAt w g (.node a b)) : ∃ ga gb, w.cell? ⟨g, 36, none⟩ = some (.pointer (some ⟨ga, 0, none⟩)) ∧ w.cell? ⟨g, 37, none⟩ = some (.pointer (some ⟨gb, 0, none⟩)) ∧ TreeAt w ga a ∧ TreeAt w gb b := by
  obtain ⟨ga, gb, _, h, h1, h2⟩ := h
  exact ⟨ga, gb, (t_cells h).2.2.2.2.1, (t_cells h).2.2.2.2.2.1, h1, h2⟩
/-- both parts' pointers stay -/
abbrev Kids (g ga gb : Nat) (w : World) : Prop := w.cell? ⟨g, 36, none⟩ = some (.pointer (some ⟨ga, 0, none⟩)) ∧ w.cell? ⟨g, 37, none⟩ = some (.pointer (some ⟨gb, 0, none⟩))
theorem Kids.below {g ga gb : Nat} {w w' : World} (h : Kids g ga gb w) (hb : Below w.heap.size w w') : Kids g ga gb w' := by
  have := World.block_lt_of_cell? w _ h.1
  exact ⟨(hb.cell (p := ⟨g, 36, none⟩) this).trans h.1, (hb.cell (p := ⟨g, 37, none⟩) this).trans h.2⟩
set_option maxHeartbeats 2000000 in
theorem fromFirst_new (gx gy gs : Nat) (x y s : AvT) (w : World) (he : Env w) (hx : TreeAt w gx x) (hy : TreeAt w gy y) (hs : TreeAt w gs s) (hm : x.many + y.many + s.many ≤ 4611686018427387904) :
    Calls Tryz.prog 216 #[.pointer (some ⟨gx, 0, none⟩), .pointer (some ⟨gy, 0, none⟩), .pointer (some ⟨gs, 0, none⟩)] w (NewT (fromFirst x y s) w) := by
  have c1 := hx.height
  have c2 := hy.height
  by_cases hlt : x.height < y.height
  · cases y with
    | leaf k v => have := x.height_pos; simp only [AvT.height] at hlt; omega
    | node p q =>
      have HF := Lib.hid (show fromFirst x (.node p q) s = .node (.node x p) (.node q s) by unfold fromFirst; rw [if_pos hlt])
      obtain ⟨gp, gq, k1, k2, hp, hq⟩ := hy.kids
      simp only [AvT.many] at hm
      have HM := Lib.hid hm
      have M := Lib.hid (show TM w w [(gx, x), (gp, p), (gq, q), (gs, s)] from ⟨Below.refl _ _, he, fun z hz => by simp at hz; rcases hz with rfl | rfl | rfl | rfl <;> assumption⟩)
      have HK := Lib.hid (show Kids gy gp gq w from ⟨k1, k2⟩)
      obtain ⟨yh, hyh⟩ : ∃ n, n = (AvT.node p q).height := ⟨_, rfl⟩
      obtain ⟨xh, hxh⟩ : ∃ n, n = x.height := ⟨_, rfl⟩
      rw [← hyh] at c2 hlt
      rw [← hxh] at c1 hlt
      have hltI : (xh : Int) < (yh : Int) := by omega
      clear hyh hxh k1 k2 he hx hy hs hp hq hm hlt
      unfold NewT
      go_enter Tryz.func216, Tryz.ntmps216
      go_upto_region 1 with (fail)
      go_quiet (fail)
      go_upto_region 2 with (fail)
      replace M := Lib.hid (M.out.call (below_drewN (Below.refl _ w) nq))
      replace HK := Lib.hid (HK.out.below (below_drewN (Below.refl _ w) nq))
      generalize w.drewN nq = w1 at *
      replace M := Lib.hid (M.out.call (Below.refl _ w1).drew)
      replace HK := Lib.hid (HK.out.below (Below.refl _ w1).drew)
      have hS0 := HK.out
      clear c1 c2
      go_region_held3 (fun w' => w'.cell? ⟨gy, 36, none⟩ = some (.pointer (some ⟨gp, 0, none⟩)) ∧ w'.cell? ⟨gy, 37, none⟩ = some (.pointer (some ⟨gq, 0, none⟩)))
        (first | (with_reducible exact hS0) | (with_reducible exact hS1) | (with_reducible exact hS2) | (with_reducible exact hS3))
        (first
          | (go_at_call 160; (with_reducible refine (mkNode_new gx gp x p _ M.out.env (M.out.trees (gx, x) (by simp)) (M.out.trees (gp, p) (by simp)) (by have := HM.out; (try simp only [AvT.many]); omega)).mono ?_); rintro e w3 ⟨g3, rfl, ht, hb⟩; replace M := Lib.hid (M.out.add ht hb); replace HK := Lib.hid (HK.out.below hb); have hS1 := HK.out; clear ht hb)
          | (go_at_call 160; (with_reducible refine (mkNode_new gq gs q s _ M.out.env (M.out.trees (gq, q) (by simp)) (M.out.trees (gs, s) (by simp)) (by have := HM.out; (try simp only [AvT.many]); omega)).mono ?_); rintro e w4 ⟨g4, rfl, ht, hb⟩; replace M := Lib.hid (M.out.add ht hb); replace HK := Lib.hid (HK.out.below hb); have hS2 := HK.out; clear ht hb)
          | (go_at_call 160; (with_reducible refine (mkNode_new g3 g4 (AvT.node x p) (AvT.node q s) _ M.out.env (M.out.trees (g3, (AvT.node x p)) (by simp)) (M.out.trees (g4, (AvT.node q s)) (by simp)) (by have := HM.out; (try simp only [AvT.many]); omega)).mono ?_); rintro e w5 ⟨g5, rfl, ht, hb⟩; replace M := Lib.hid (M.out.add ht hb); replace HK := Lib.hid (HK.out.below hb); have hS3 := HK.out; clear ht hb))
      go_wp2_with (fail)
      go_ret
      rw [HF.out]
      exact ⟨g5, rfl, M.out.hd, M.out.below⟩
  · have HF := Lib.hid (show fromFirst x y s = .node x (.node y s) by unfold fromFirst; rw [if_neg hlt])
    have HM := Lib.hid hm
    have M := Lib.hid (show TM w w [(gx, x), (gy, y), (gs, s)] from ⟨Below.refl _ _, he, fun z hz => by simp at hz; rcases hz with rfl | rfl | rfl <;> assumption⟩)
    obtain ⟨yh, hyh⟩ : ∃ n, n = y.height := ⟨_, rfl⟩
    obtain ⟨xh, hxh⟩ : ∃ n, n = x.height := ⟨_, rfl⟩
    rw [← hyh] at c2 hlt
    rw [← hxh] at c1 hlt
    have hltI : ¬ (xh : Int) < (yh : Int) := by omega
    clear hyh hxh he hx hy hs hm hlt
    unfold NewT
    go_enter Tryz.func216, Tryz.ntmps216
    go_upto_region 1 with (fail)
    go_quiet (fail)
    go_upto_region 3 with (fail)
    replace M := Lib.hid (M.out.call (below_drewN (Below.refl _ w) nq))
    generalize w.drewN nq = w1 at *
    clear c1 c2
    go_wp2_with (first
      | (go_at_call 160; (with_reducible refine (mkNode_new gy gs y s _ M.out.env (M.out.trees (gy, y) (by simp)) (M.out.trees (gs, s) (by simp)) (by have := HM.out; (try simp only [AvT.many]); omega)).mono ?_); rintro e w3 ⟨g3, rfl, ht, hb⟩; replace M := Lib.hid (M.out.add ht hb); clear ht hb)
      | (go_at_call 160; (with_reducible refine (mkNode_new gx g3 x (AvT.node y s) _ M.out.env (M.out.trees (gx, x) (by simp)) (M.out.trees (g3, AvT.node y s) (by simp)) (by have := HM.out; (try simp only [AvT.many]); omega)).mono ?_); rintro e w4 ⟨g4, rfl, ht, hb⟩; replace M := Lib.hid (M.out.add ht hb); clear ht hb))
    go_ret
    rw [HF.out]
    exact ⟨g4, rfl, M.out.hd, M.out.below⟩
set_option maxHeartbeats 2000000 in
theorem fromSecond_new (gs gy gx : Nat) (s y x : AvT) (w : World) (he : Env w) (hs : TreeAt w gs s) (hy : TreeAt w gy y) (hx : TreeAt w gx x) (hm : s.many + y.many + x.many ≤ 4611686018427387904) :
    Calls Tryz.prog 217 #[.pointer (some ⟨gs, 0, none⟩), .pointer (some ⟨gy, 0, none⟩), .pointer (some ⟨gx, 0, none⟩)] w (NewT (fromSecond s y x) w) := by
  have c1 := hx.height
  have c2 := hy.height
  by_cases hlt : x.height < y.height
  · cases y with
    | leaf k v => have := x.height_pos; simp only [AvT.height] at hlt; omega
    | node p q =>
      have HF := Lib.hid (show fromSecond s (.node p q) x = .node (.node s p) (.node q x) by unfold fromSecond; rw [if_pos hlt])
      obtain ⟨gp, gq, k1, k2, hp, hq⟩ := hy.kids
      simp only [AvT.many] at hm
      have HM := Lib.hid hm
      have M := Lib.hid (show TM w w [(gx, x), (gp, p), (gq, q), (gs, s)] from ⟨Below.refl _ _, he, fun z hz => by simp at hz; rcases hz with rfl | rfl | rfl | rfl <;> assumption⟩)
      have HK := Lib.hid (show Kids gy gp gq w from ⟨k1, k2⟩)
      obtain ⟨yh, hyh⟩ : ∃ n, n = (AvT.node p q).height := ⟨_, rfl⟩
      obtain ⟨xh, hxh⟩ : ∃ n, n = x.height := ⟨_, rfl⟩
      rw [← hyh] at c2 hlt
      rw [← hxh] at c1 hlt
      have hltI : (xh : Int) < (yh : Int) := by omega
      clear hyh hxh k1 k2 he hx hy hs hp hq hm hlt
      unfold NewT
      go_enter Tryz.func217, Tryz.ntmps217
      go_upto_region 1 with (fail)
      go_quiet (fail)
      go_upto_region 2 with (fail)
      replace M := Lib.hid (M.out.call (below_drewN (Below.refl _ w) nq))
      replace HK := Lib.hid (HK.out.below (below_drewN (Below.refl _ w) nq))
      generalize w.drewN nq = w1 at *
      replace M := Lib.hid (M.out.call (Below.refl _ w1).drew)
      replace HK := Lib.hid (HK.out.below (Below.refl _ w1).drew)
      have hS0 := HK.out
      clear c1 c2
      go_region_held3 (fun w' => w'.cell? ⟨gy, 36, none⟩ = some (.pointer (some ⟨gp, 0, none⟩)) ∧ w'.cell? ⟨gy, 37, none⟩ = some (.pointer (some ⟨gq, 0, none⟩)))
        (first | (with_reducible exact hS0) | (with_reducible exact hS1) | (with_reducible exact hS2) | (with_reducible exact hS3))
        (first
          | (go_at_call 160; (with_reducible refine (mkNode_new gs gp s p _ M.out.env (M.out.trees (gs, s) (by simp)) (M.out.trees (gp, p) (by simp)) (by have := HM.out; (try simp only [AvT.many]); omega)).mono ?_); rintro e w3 ⟨g3, rfl, ht, hb⟩; replace M := Lib.hid (M.out.add ht hb); replace HK := Lib.hid (HK.out.below hb); have hS1 := HK.out; clear ht hb)
          | (go_at_call 160; (with_reducible refine (mkNode_new gq gx q x _ M.out.env (M.out.trees (gq, q) (by simp)) (M.out.trees (gx, x) (by simp)) (by have := HM.out; (try simp only [AvT.many]); omega)).mono ?_); rintro e w4 ⟨g4, rfl, ht, hb⟩; replace M := Lib.hid (M.out.add ht hb); replace HK := Lib.hid (HK.out.below hb); have hS2 := HK.out; clear ht hb)
          | (go_at_call 160; (with_reducible refine (mkNode_new g3 g4 (AvT.node s p) (AvT.node q x) _ M.out.env (M.out.trees (g3, (AvT.node s p)) (by simp)) (M.out.trees (g4, (AvT.node q x)) (by simp)) (by have := HM.out; (try simp only [AvT.many]); omega)).mono ?_); rintro e w5 ⟨g5, rfl, ht, hb⟩; replace M := Lib.hid (M.out.add ht hb); replace HK := Lib.hid (HK.out.below hb); have hS3 := HK.out; clear ht hb))
      go_wp2_with (fail)
      go_ret
      rw [HF.out]
      exact ⟨g5, rfl, M.out.hd, M.out.below⟩
  · have HF := Lib.hid (show fromSecond s y x = .node (.node s y) x by unfold fromSecond; rw [if_neg hlt])
    have HM := Lib.hid hm
    have M := Lib.hid (show TM w w [(gx, x), (gy, y), (gs, s)] from ⟨Below.refl _ _, he, fun z hz => by simp at hz; rcases hz with rfl | rfl | rfl <;> assumption⟩)
    obtain ⟨yh, hyh⟩ : ∃ n, n = y.height := ⟨_, rfl⟩
    obtain ⟨xh, hxh⟩ : ∃ n, n = x.height := ⟨_, rfl⟩
    rw [← hyh] at c2 hlt
    rw [← hxh] at c1 hlt
    have hltI : ¬ (xh : Int) < (yh : Int) := by omega
    clear hyh hxh he hx hy hs hm hlt
    unfold NewT
    go_enter Tryz.func217, Tryz.ntmps217
    go_upto_region 1 with (fail)
    go_quiet (fail)
    go_upto_region 3 with (fail)
    replace M := Lib.hid (M.out.call (below_drewN (Below.refl _ w) nq))
    generalize w.drewN nq = w1 at *
    clear c1 c2
    go_wp2_with (first
      | (go_at_call 160; (with_reducible refine (mkNode_new gs gy s y _ M.out.env (M.out.trees (gs, s) (by simp)) (M.out.trees (gy, y) (by simp)) (by have := HM.out; (try simp only [AvT.many]); omega)).mono ?_); rintro e w3 ⟨g3, rfl, ht, hb⟩; replace M := Lib.hid (M.out.add ht hb); clear ht hb)
      | (go_at_call 160; (with_reducible refine (mkNode_new g3 gx (AvT.node s y) x _ M.out.env (M.out.trees (g3, AvT.node s y) (by simp)) (M.out.trees (gx, x) (by simp)) (by have := HM.out; (try simp only [AvT.many]); omega)).mono ?_); rintro e w4 ⟨g4, rfl, ht, hb⟩; replace M := Lib.hid (M.out.add ht hb); clear ht hb))
    go_ret
    rw [HF.out]
    exact ⟨g4, rfl, M.out.hd, M.out.below⟩
theorem join_nil1 (v : Value) (w : World) : Calls Tryz.prog 161 #[.pointer none, v] w fun e w' => e = .returned v ∧ w = w' := by
  go_enter Tryz.func161, Tryz.ntmps161
  go_wp2_with (fail)
  go_ret
  exact ⟨rfl, rfl⟩
theorem join_nil2 (g : Nat) (w : World) : Calls Tryz.prog 161 #[.pointer (some ⟨g, 0, none⟩), .pointer none] w fun e w' => e = .returned (.pointer (some ⟨g, 0, none⟩)) ∧ w = w' := by
  go_enter Tryz.func161, Tryz.ntmps161
  go_wp2_with (fail)
  go_ret
  exact ⟨rfl, rfl⟩
set_option maxHeartbeats 2000000 in
theorem join_new (ga gb : Nat) (a b : AvT) (w : World) (he : Env w) (ha : TreeAt w ga a) (hb : TreeAt w gb b) (hm : a.many + b.many ≤ 4611686018427387904) :
    Calls Tryz.prog 161 #[.pointer (some ⟨ga, 0, none⟩), .pointer (some ⟨gb, 0, none⟩)] w (NewT (joinN a b) w) := by
  have c1 := ha.height
  have c2 := hb.height
  have hla := a.height_le
  have hlb := b.height_le
  by_cases h1 : b.height + 1 < a.height
  · cases a with
    | leaf k v => have := b.height_pos; simp only [AvT.height] at h1; omega
    | node p q =>
      have HF := Lib.hid (show joinN (.node p q) b = fromFirst p q b by unfold joinN; rw [if_pos h1])
      obtain ⟨gp, gq, k1, k2, hp, hq⟩ := ha.kids
      simp only [AvT.many] at hm
      have HM := Lib.hid hm
      have M := Lib.hid (show TM w w [(gp, p), (gq, q), (gb, b)] from ⟨Below.refl _ _, he, fun z hz => by simp at hz; rcases hz with rfl | rfl | rfl <;> assumption⟩)
      have HK := Lib.hid (show Kids ga gp gq w from ⟨k1, k2⟩)
      obtain ⟨ah, hah⟩ : ∃ n, n = (AvT.node p q).height := ⟨_, rfl⟩
      obtain ⟨bh, hbh⟩ : ∃ n, n = b.height := ⟨_, rfl⟩
      simp only [AvT.many] at hla
      rw [← hah] at c1 h1 hla
      rw [← hbh] at c2 h1 hlb
      have hwr : IntKind.i64.wrap ((bh : Int) + 1) = (bh : Int) + 1 := IntWalk.i64_in _ (by omega)
      have hgt : (bh : Int) + 1 < (ah : Int) := by omega
      clear hah hbh k1 k2 he ha hb hp hq hm h1 hla hlb
      unfold NewT
      go_enter Tryz.func161, Tryz.ntmps161
      go_upto_region 5 with (fail)
      go_quiet (fail)
      go_upto_region 6 with (fail)
      replace M := Lib.hid (M.out.call (below_drewN (Below.refl _ w) nq))
      replace HK := Lib.hid (HK.out.below (below_drewN (Below.refl _ w) nq))
      generalize w.drewN nq = w1 at *
      replace M := Lib.hid (M.out.call (Below.refl _ w1).drew)
      replace HK := Lib.hid (HK.out.below (Below.refl _ w1).drew)
      have hS0 := HK.out
      clear c1 c2 hwr
      go_region_held3 (fun w' => w'.cell? ⟨ga, 36, none⟩ = some (.pointer (some ⟨gp, 0, none⟩)) ∧ w'.cell? ⟨ga, 37, none⟩ = some (.pointer (some ⟨gq, 0, none⟩)))
        (first | (with_reducible exact hS0) | (with_reducible exact hS1))
        (first
          | (go_at_call 216; (with_reducible refine (fromFirst_new gp gq gb p q b _ M.out.env (M.out.trees (gp, p) (by simp)) (M.out.trees (gq, q) (by simp)) (M.out.trees (gb, b) (by simp)) HM.out).mono ?_); rintro e w5 ⟨g5, rfl, ht, hb⟩; replace M := Lib.hid (M.out.add ht hb); replace HK := Lib.hid (HK.out.below hb); have hS1 := HK.out; clear ht hb))
      go_wp2_with (fail)
      go_ret
      rw [HF.out]
      exact ⟨g5, rfl, M.out.hd, M.out.below⟩
  · by_cases h2 : a.height + 1 < b.height
    · cases b with
      | leaf k v => have := a.height_pos; simp only [AvT.height] at h2; omega
      | node p q =>
        have HF := Lib.hid (show joinN a (.node p q) = fromSecond a p q by unfold joinN; rw [if_neg h1, if_pos h2])
        obtain ⟨gp, gq, k1, k2, hp, hq⟩ := hb.kids
        simp only [AvT.many] at hm
        have HM := Lib.hid (show a.many + p.many + q.many ≤ 4611686018427387904 by omega)
        have M := Lib.hid (show TM w w [(gp, p), (gq, q), (ga, a)] from ⟨Below.refl _ _, he, fun z hz => by simp at hz; rcases hz with rfl | rfl | rfl <;> assumption⟩)
        have HK := Lib.hid (show Kids gb gp gq w from ⟨k1, k2⟩)
        obtain ⟨bh, hbh⟩ : ∃ n, n = (AvT.node p q).height := ⟨_, rfl⟩
        obtain ⟨ah, hah⟩ : ∃ n, n = a.height := ⟨_, rfl⟩
        simp only [AvT.many] at hlb
        rw [← hah] at c1 h1 h2 hla
        rw [← hbh] at c2 h1 h2 hlb
        have hwr : IntKind.i64.wrap ((bh : Int) + 1) = (bh : Int) + 1 := IntWalk.i64_in _ (by omega)
        have hwr2 : IntKind.i64.wrap ((ah : Int) + 1) = (ah : Int) + 1 := IntWalk.i64_in _ (by omega)
        have hgt : ¬ (bh : Int) + 1 < (ah : Int) := by omega
        have hgt2 : (ah : Int) + 1 < (bh : Int) := by omega
        clear hah hbh k1 k2 he ha hb hp hq hm h1 h2 hla hlb
        unfold NewT
        go_enter Tryz.func161, Tryz.ntmps161
        go_upto_region 5 with (fail)
        go_quiet (fail)
        go_upto_region 7 with (fail)
        replace M := Lib.hid (M.out.call (below_drewN (Below.refl _ w) nq))
        replace HK := Lib.hid (HK.out.below (below_drewN (Below.refl _ w) nq))
        replace c1 := show (w.drewN nq).cell? ⟨ga, 3, none⟩ = _ from c1
        replace c2 := show (w.drewN nq).cell? ⟨gb, 3, none⟩ = _ from c2
        generalize w.drewN nq = w1 at *
        go_quiet (fail)
        go_upto_region 8 with (fail)
        replace M := Lib.hid (M.out.call (below_drewN (Below.refl _ w1) nq))
        replace HK := Lib.hid (HK.out.below (below_drewN (Below.refl _ w1) nq))
        generalize w1.drewN nq = w2 at *
        replace M := Lib.hid (M.out.call (Below.refl _ w2).drew)
        replace HK := Lib.hid (HK.out.below (Below.refl _ w2).drew)
        have hS0 := HK.out
        clear c1 c2 hwr hwr2
        go_region_held3 (fun w' => w'.cell? ⟨gb, 36, none⟩ = some (.pointer (some ⟨gp, 0, none⟩)) ∧ w'.cell? ⟨gb, 37, none⟩ = some (.pointer (some ⟨gq, 0, none⟩)))
          (first | (with_reducible exact hS0) | (with_reducible exact hS1))
          (first
            | (go_at_call 217; (with_reducible refine (fromSecond_new ga gp gq a p q _ M.out.env (M.out.trees (ga, a) (by simp)) (M.out.trees (gp, p) (by simp)) (M.out.trees (gq, q) (by simp)) HM.out).mono ?_); rintro e w5 ⟨g5, rfl, ht, hb⟩; replace M := Lib.hid (M.out.add ht hb); replace HK := Lib.hid (HK.out.below hb); have hS1 := HK.out; clear ht hb))
        go_wp2_with (fail)
        go_ret
        rw [HF.out]
        exact ⟨g5, rfl, M.out.hd, M.out.below⟩
    · have HF := Lib.hid (show joinN a b = .node a b by unfold joinN; rw [if_neg h1, if_neg h2])
      have HM := Lib.hid hm
      have M := Lib.hid (show TM w w [(ga, a), (gb, b)] from ⟨Below.refl _ _, he, fun z hz => by simp at hz; rcases hz with rfl | rfl <;> assumption⟩)
      obtain ⟨bh, hbh⟩ : ∃ n, n = b.height := ⟨_, rfl⟩
      obtain ⟨ah, hah⟩ : ∃ n, n = a.height := ⟨_, rfl⟩
      rw [← hah] at c1 h1 h2 hla
      rw [← hbh] at c2 h1 h2 hlb
      have hwr : IntKind.i64.wrap ((bh : Int) + 1) = (bh : Int) + 1 := IntWalk.i64_in _ (by omega)
      have hwr2 : IntKind.i64.wrap ((ah : Int) + 1) = (ah : Int) + 1 := IntWalk.i64_in _ (by omega)
      have hgt : ¬ (bh : Int) + 1 < (ah : Int) := by omega
      have hgt2 : ¬ (ah : Int) + 1 < (bh : Int) := by omega
      clear hah hbh he ha hb hm h1 h2 hla hlb
      unfold NewT
      go_enter Tryz.func161, Tryz.ntmps161
      go_upto_region 5 with (fail)
      go_quiet (fail)
      go_upto_region 7 with (fail)
      replace M := Lib.hid (M.out.call (below_drewN (Below.refl _ w) nq))
      replace c1 := show (w.drewN nq).cell? ⟨ga, 3, none⟩ = _ from c1
      replace c2 := show (w.drewN nq).cell? ⟨gb, 3, none⟩ = _ from c2
      generalize w.drewN nq = w1 at *
      go_quiet (fail)
      go_upto_region 9 with (fail)
      replace M := Lib.hid (M.out.call (below_drewN (Below.refl _ w1) nq))
      generalize w1.drewN nq = w2 at *
      clear c1 c2 hwr hwr2
      go_wp2_with (first
        | (go_at_call 160; (with_reducible refine (mkNode_new ga gb a b _ M.out.env (M.out.trees (ga, a) (by simp)) (M.out.trees (gb, b) (by simp)) HM.out).mono ?_); rintro e w4 ⟨g4, rfl, ht, hb⟩; replace M := Lib.hid (M.out.add ht hb); clear ht hb))
      go_ret
      rw [HF.out]
      exact ⟨g4, rfl, M.out.hd, M.out.below⟩
/-- join of parts that may have no keys left -/
theorem join_any (va vb : Value) (a b : Option AvT) (w : World) (he : Env w) (ha : TreeO w va a) (hb : TreeO w vb b) (hm : manyO a + manyO b ≤ 4611686018427387904) :
    Calls Tryz.prog 161 #[va, vb] w fun e w' => ∃ v, e = .returned v ∧ TreeO w' v (joinO a b) ∧ Below w.heap.size w w' := by
  cases a with
  | none =>
    cases ha
    refine (join_nil1 vb w).mono ?_
    rintro e w' ⟨rfl, rfl⟩
    exact ⟨_, rfl, hb, Below.refl _ _⟩
  | some a =>
    obtain ⟨ga, rfl, ha⟩ := ha
    cases b with
    | none =>
      cases hb
      refine (join_nil2 ga w).mono ?_
      rintro e w' ⟨rfl, rfl⟩
      exact ⟨_, rfl, ⟨ga, rfl, ha⟩, Below.refl _ _⟩
    | some b =>
      obtain ⟨gb, rfl, hb⟩ := hb
      refine (join_new ga gb a b w he ha hb hm).mono ?_
      rintro e w' ⟨g, rfl, ht, hb'⟩
      exact ⟨_, rfl, ⟨g, rfl, ht⟩, hb'⟩
end Go.Proofs.YtejglhlodfhgkaaGreatDoor
namespace Go.Proofs.YtejglhlodfhgkaaGreatDoor
set_option linter.unusedVariables false
set_option linter.unusedSimpArgs false
open Go.RowKit
set_option maxRecDepth 100000
set_option linter.unusedSimpArgs false
set_option linter.unusedVariables false
theorem joinN_many (a b : AvT) : (joinN a b).many = a.many + b.many := by
  rw [← AvT.many_eq, joinN_pairs, List.length_append, AvT.many_eq, AvT.many_eq]
theorem set_many (k v : ByteArray) : ∀ t : AvT, (t.set k v).many ≤ t.many + 1
  | .leaf k0 v0 => by
    unfold AvT.set
    split
    · simp [AvT.many]
    · split <;> simp [AvT.many]
  | .node a b => by
    unfold AvT.set
    have := set_many k v a
    have := set_many k v b
    split <;> rw [joinN_many] <;> simp only [AvT.many] <;> omega
theorem joinO_many (a b : Option AvT) : manyO (joinO a b) = manyO a + manyO b := by
  cases a with
  | none => simp [joinO, manyO]
  | some a =>
    cases b with
    | none => simp [joinO, manyO]
    | some b => exact joinN_many a b
theorem without_many (k : ByteArray) : ∀ t : AvT, manyO (t.without k) ≤ t.many
  | .leaf k0 v0 => by simp [AvT.without, manyO]
  | .node a b => by
    unfold AvT.without
    have := without_many k a
    have := without_many k b
    have e : ∀ t : AvT, manyO (some t) = t.many := fun _ => rfl
    split <;> rw [joinO_many, e] <;> simp only [AvT.many] <;> omega
theorem set_nil (k v : ByteArray) (w : World) (he : Env w) (hs : k.size + v.size ≤ 140737488351232) : Calls Tryz.prog 84 #[.pointer none, .string k, .string v] w (NewT (.leaf k v) w) := by
  have HL := Lib.hid (mkLeaf_new k v w he hs)
  clear he hs
  unfold NewT
  go_enter Tryz.func84, Tryz.ntmps84
  go_wp2_with (first
    | (go_at_call 86; (with_reducible refine (len_nil _).mono ?_); rintro e w' ⟨rfl, rfl⟩)
    | (go_at_call 159; (with_reducible refine HL.out.mono ?_); rintro e w4 ⟨g4, rfl, ht, hb⟩; have HT := Lib.hid ht; have HB := Lib.hid hb; clear ht hb))
  go_ret
  exact ⟨g4, rfl, HT.out, HB.out⟩
set_option maxHeartbeats 2000000 in
theorem set_leaf (g : Nat) (k0 v0 k v : ByteArray) (w : World) (he : Env w) (ht : TreeAt w g (.leaf k0 v0)) (hs : k.size + v.size ≤ 140737488351232) : Calls Tryz.prog 84 #[.pointer (some ⟨g, 0, none⟩), .string k, .string v] w (NewT ((AvT.leaf k0 v0).set k v) w) := by
  have HLE := Lib.hid (fun w h => len_some (g := g) (t := .leaf k0 v0) w h)
  have HL := Lib.hid (mkLeaf_new k v w he hs)
  have M := Lib.hid (show TM w w [(g, .leaf k0 v0)] from ⟨Below.refl _ _, he, fun z hz => by simp at hz; rcases hz with rfl; assumption⟩)
  have c0 := ht.least
  rw [show (AvT.leaf k0 v0).least = k0 from rfl] at c0
  by_cases h1 : k = k0
  · have HF := Lib.hid (show (AvT.leaf k0 v0).set k v = .leaf k v by unfold AvT.set; rw [if_pos h1])
    have hk : (k.toList == k0.toList) = true := by rw [beqL]; simp [h1]
    clear h1 ht he hs
    unfold NewT
    go_enter Tryz.func84, Tryz.ntmps84
    go_wp2_with (first
      | (go_at_call 86; (with_reducible refine (HLE.out _ M.out.hd).mono ?_); rw [show ((AvT.leaf k0 v0).many : Int) = 1 from rfl]; rintro e w' ⟨rfl, rfl⟩)
      | (go_at_call 159; (with_reducible refine HL.out.mono ?_); rintro e w4 ⟨g4, rfl, ht, hb⟩; replace M := Lib.hid (M.out.add ht hb); clear ht hb))
    go_ret
    rw [HF.out]
    exact ⟨g4, rfl, M.out.hd, M.out.below⟩
  · have hk : (k.toList == k0.toList) = false := by rw [beqL]; simp [h1]
    cases h2 : bl k k0 with
    | true =>
      have HF := Lib.hid (show (AvT.leaf k0 v0).set k v = .node (.leaf k v) (.leaf k0 v0) by unfold AvT.set; rw [if_neg h1, if_pos h2])
      have hl : Op.bytesLess k.toList k0.toList = true := h2
      clear h1 h2 ht he hs
      unfold NewT
      go_enter Tryz.func84, Tryz.ntmps84
      go_wp2_with (first
        | (go_at_call 86; (with_reducible refine (HLE.out _ M.out.hd).mono ?_); rw [show ((AvT.leaf k0 v0).many : Int) = 1 from rfl]; rintro e w' ⟨rfl, rfl⟩)
        | (go_at_call 159; (with_reducible refine HL.out.mono ?_); rintro e w4 ⟨g4, rfl, ht, hb⟩; replace M := Lib.hid (M.out.add ht hb); clear ht hb)
        | (go_at_call 160; (with_reducible refine (mkNode_new g4 g (.leaf k v) (.leaf k0 v0) _ M.out.env (M.out.trees (g4, AvT.leaf k v) (by simp)) (M.out.trees (g, AvT.leaf k0 v0) (by simp)) (by simp [AvT.many])).mono ?_); rintro e w5 ⟨g5, rfl, ht, hb⟩; replace M := Lib.hid (M.out.add ht hb); clear ht hb))
      go_ret
      rw [HF.out]
      exact ⟨g5, rfl, M.out.hd, M.out.below⟩
    | false =>
      have HF := Lib.hid (show (AvT.leaf k0 v0).set k v = .node (.leaf k0 v0) (.leaf k v) by unfold AvT.set; rw [if_neg h1, if_neg (by rw [h2]; simp)])
      have hl : Op.bytesLess k.toList k0.toList = false := h2
      clear h1 h2 ht he hs
      unfold NewT
      go_enter Tryz.func84, Tryz.ntmps84
      go_wp2_with (first
        | (go_at_call 86; (with_reducible refine (HLE.out _ M.out.hd).mono ?_); rw [show ((AvT.leaf k0 v0).many : Int) = 1 from rfl]; rintro e w' ⟨rfl, rfl⟩)
        | (go_at_call 159; (with_reducible refine HL.out.mono ?_); rintro e w4 ⟨g4, rfl, ht, hb⟩; replace M := Lib.hid (M.out.add ht hb); clear ht hb)
        | (go_at_call 160; (with_reducible refine (mkNode_new g g4 (.leaf k0 v0) (.leaf k v) _ M.out.env (M.out.trees (g, AvT.leaf k0 v0) (by simp)) (M.out.trees (g4, AvT.leaf k v) (by simp)) (by simp [AvT.many])).mono ?_); rintro e w5 ⟨g5, rfl, ht, hb⟩; replace M := Lib.hid (M.out.add ht hb); clear ht hb))
      go_ret
      rw [HF.out]
      exact ⟨g5, rfl, M.out.hd, M.out.below⟩
set_option maxHeartbeats 2000000 in
theorem set_node (g : Nat) (a b : AvT) (k v : ByteArray) (w : World) (he : Env w) (ht : TreeAt w g (.node a b)) (hm : a.many + b.many + 1 ≤ 4611686018427387904)
    (iha : ∀ (w : World) (g : Nat), Env w → TreeAt w g a → Calls Tryz.prog 84 #[.pointer (some ⟨g, 0, none⟩), .string k, .string v] w (NewT (a.set k v) w))
    (ihb : ∀ (w : World) (g : Nat), Env w → TreeAt w g b → Calls Tryz.prog 84 #[.pointer (some ⟨g, 0, none⟩), .string k, .string v] w (NewT (b.set k v) w)) :
    Calls Tryz.prog 84 #[.pointer (some ⟨g, 0, none⟩), .string k, .string v] w (NewT ((AvT.node a b).set k v) w) := by
  have HLE := Lib.hid (fun w h => len_some (g := g) (t := .node a b) w h)
  obtain ⟨ga, gb, k1, k2, ha, hb⟩ := ht.kids
  have c0 := hb.least
  have h2m : 2 ≤ (AvT.node a b).many := by have := a.many_pos; have := b.many_pos; simp only [AvT.many]; omega
  obtain ⟨m, hmm⟩ : ∃ m, m = (AvT.node a b).many := ⟨_, rfl⟩
  rw [← hmm] at HLE h2m
  have hm0 : ((m : Int) == 0) = false := by rw [beq_eq_false_iff_ne]; omega
  have hm1 : ((m : Int) == 1) = false := by rw [beq_eq_false_iff_ne]; omega
  have M := Lib.hid (show TM w w [(g, .node a b), (ga, a), (gb, b)] from ⟨Below.refl _ _, he, fun z hz => by simp at hz; rcases hz with rfl | rfl | rfl <;> assumption⟩)
  have HK := Lib.hid (show Kids g ga gb w from ⟨k1, k2⟩)
  have HIA := Lib.hid iha
  have HIB := Lib.hid ihb
  have HMA := Lib.hid (show (a.set k v).many + b.many ≤ 4611686018427387904 by have := set_many k v a; omega)
  have HMB := Lib.hid (show a.many + (b.set k v).many ≤ 4611686018427387904 by have := set_many k v b; omega)
  obtain ⟨lk, hlk⟩ : ∃ l, l = b.least := ⟨_, rfl⟩
  cases h2 : bl k b.least with
  | true =>
    have HF := Lib.hid (show (AvT.node a b).set k v = joinN (a.set k v) b by rw [AvT.set, if_pos h2])
    obtain ⟨A, hA⟩ : ∃ A, A = a.set k v := ⟨_, rfl⟩
    rw [← hA] at HIA HMA HF
    rw [← hlk] at h2 c0
    have hl : Op.bytesLess k.toList lk.toList = true := h2
    clear h2 ht he hm hmm k1 ha hb hlk hA iha ihb HIB HMB h2m
    unfold NewT
    go_enter Tryz.func84, Tryz.ntmps84
    go_upto_region 8 with (go_at_call 86; (with_reducible refine (HLE.out _ M.out.hd).mono ?_); rintro e w' ⟨rfl, rfl⟩)
    replace M := Lib.hid (M.out.call (Below.refl _ w).drew)
    replace HK := Lib.hid (HK.out.below (Below.refl _ w).drew)
    have hS0 := HK.out
    clear c0 k2
    go_region_held3 (fun w' => w'.cell? ⟨g, 36, none⟩ = some (.pointer (some ⟨ga, 0, none⟩)) ∧ w'.cell? ⟨g, 37, none⟩ = some (.pointer (some ⟨gb, 0, none⟩)))
      (first | (with_reducible exact hS0) | (with_reducible exact hS1) | (with_reducible exact hS2))
      (first
        | (go_at_call 84; (with_reducible refine (HIA.out _ ga M.out.env (M.out.trees (ga, a) (by simp))).mono ?_); rintro e w5 ⟨g5, rfl, ht, hb⟩; replace M := Lib.hid (M.out.add ht hb); replace HK := Lib.hid (HK.out.below hb); have hS1 := HK.out; clear ht hb)
        | (go_at_call 161; (with_reducible refine (join_new g5 gb A b _ M.out.env (M.out.trees (g5, A) (by simp)) (M.out.trees (gb, b) (by simp)) HMA.out).mono ?_); rintro e w6 ⟨g6, rfl, ht, hb⟩; replace M := Lib.hid (M.out.add ht hb); replace HK := Lib.hid (HK.out.below hb); have hS2 := HK.out; clear ht hb))
    go_wp2_with (fail)
    go_ret
    rw [HF.out]
    exact ⟨g6, rfl, M.out.hd, M.out.below⟩
  | false =>
    have HF := Lib.hid (show (AvT.node a b).set k v = joinN a (b.set k v) by rw [AvT.set, if_neg (by rw [h2]; simp)])
    obtain ⟨B, hB⟩ : ∃ B, B = b.set k v := ⟨_, rfl⟩
    rw [← hB] at HIB HMB HF
    rw [← hlk] at h2 c0
    have hl : Op.bytesLess k.toList lk.toList = false := h2
    clear h2 ht he hm hmm k1 ha hb hlk hB iha ihb HIA HMA h2m
    unfold NewT
    go_enter Tryz.func84, Tryz.ntmps84
    go_upto_region 9 with (go_at_call 86; (with_reducible refine (HLE.out _ M.out.hd).mono ?_); rintro e w' ⟨rfl, rfl⟩)
    replace M := Lib.hid (M.out.call (Below.refl _ w).drew)
    replace HK := Lib.hid (HK.out.below (Below.refl _ w).drew)
    have hS0 := HK.out
    clear c0 k2
    go_region_held3 (fun w' => w'.cell? ⟨g, 36, none⟩ = some (.pointer (some ⟨ga, 0, none⟩)) ∧ w'.cell? ⟨g, 37, none⟩ = some (.pointer (some ⟨gb, 0, none⟩)))
      (first | (with_reducible exact hS0) | (with_reducible exact hS1) | (with_reducible exact hS2))
      (first
        | (go_at_call 84; (with_reducible refine (HIB.out _ gb M.out.env (M.out.trees (gb, b) (by simp))).mono ?_); rintro e w5 ⟨g5, rfl, ht, hb⟩; replace M := Lib.hid (M.out.add ht hb); replace HK := Lib.hid (HK.out.below hb); have hS1 := HK.out; clear ht hb)
        | (go_at_call 161; (with_reducible refine (join_new ga g5 a B _ M.out.env (M.out.trees (ga, a) (by simp)) (M.out.trees (g5, B) (by simp)) HMB.out).mono ?_); rintro e w6 ⟨g6, rfl, ht, hb⟩; replace M := Lib.hid (M.out.add ht hb); replace HK := Lib.hid (HK.out.below hb); have hS2 := HK.out; clear ht hb))
    go_wp2_with (fail)
    go_ret
    rw [HF.out]
    exact ⟨g6, rfl, M.out.hd, M.out.below⟩
theorem set_some (k v : ByteArray) (hs : k.size + v.size ≤ 140737488351232) : ∀ (t : AvT) (w : World) (g : Nat), t.many + 1 ≤ 4611686018427387904 → Env w → TreeAt w g t → Calls Tryz.prog 84 #[.pointer (some ⟨g, 0, none⟩), .string k, .string v] w (NewT (t.set k v) w)
  | .leaf k0 v0, w, g, _, he, ht => set_leaf g k0 v0 k v w he ht hs
  | .node a b, w, g, hm, he, ht => by
    simp only [AvT.many] at hm
    exact set_node g a b k v w he ht hm (fun w g he h => set_some k v hs a w g (by omega) he h) (fun w g he h => set_some k v hs b w g (by omega) he h)
theorem set_any (va : Value) (t : Option AvT) (k v : ByteArray) (w : World) (he : Env w) (ht : TreeO w va t) (hs : k.size + v.size ≤ 140737488351232) (hm : manyO t + 1 ≤ 4611686018427387904) :
    Calls Tryz.prog 84 #[va, .string k, .string v] w (NewT (setO t k v) w) := by
  cases t with
  | none => cases ht; exact set_nil k v w he hs
  | some t => obtain ⟨g, rfl, ht⟩ := ht; exact set_some k v hs t w g hm he ht
end Go.Proofs.YtejglhlodfhgkaaGreatDoor

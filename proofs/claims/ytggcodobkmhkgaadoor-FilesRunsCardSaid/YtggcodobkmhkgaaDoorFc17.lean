/- Part 17 of the proof. -/
import Derived.Test.YtggcodobkmhkgaaDoorFc13
import Derived.Test.YtggcodobkmhkgaaDoorFc16
namespace Go.Proofs.YtggcodobkmhkgaaDoor
set_option linter.unusedVariables false
set_option linter.unusedSimpArgs false
open Go.RowKit Go.Maps
set_option maxRecDepth 100000
def renEs (R : FsR) (old now : ByteArray) : List Ent := match getE old.data.toList R.es with | some e => putE ⟨now.data.toList, e.v, e.xs, e.safe⟩ (delE old.data.toList R.es) | none => R.es
def renE (R : FsR) (old now : ByteArray) : Option Nat := match checkE R.down [old, now] with | some n => some n | none => (findR R old).1
set_option maxHeartbeats 4000000 in
theorem renameC_any (R : FsR) (w : World) (H : FsAt w R) (old now : ByteArray) (hs : old.size ≤ maxLen) (hs' : now.size ≤ maxLen) (hok' : nmOk now.data.toList = true) (en : Ent) (hg : getE old.data.toList R.es = some en) (a : Option Addr) (cap : Nat) (hv : en.v = .slice a en.xs.length cap) (gf gn gx gm : Nat) (T1 T2 T3 : TypeId)
    (hf : w.heap[gf]? = some (.cells #[.pointer (some ⟨R.pb, 0, none⟩)] T1 (0, 0))) (hn : w.heap[gn]? = some (.cells #[.string old] T2 (0, 0))) (hx : w.heap[gx]? = some (.cells #[.slice a en.xs.length cap, .int .i64 en.safe] 113 (0, 0))) (hm : w.heap[gm]? = some (.cells #[.string now] T3 (0, 0)))
    (hfar : ∀ k, k = gf ∨ k = gn ∨ k = gx ∨ k = gm → ∀ o, ¬ Reads R k o) :
    Calls Tryd.prog 80 #[.pointer (some ⟨gf, 0, none⟩), .pointer (some ⟨gn, 0, none⟩), .pointer (some ⟨gx, 0, none⟩), .pointer (some ⟨gm, 0, none⟩)] w fun e w' => e = .returned (.tuple #[]) ∧ StepTo R { R with es := renEs R old now } w w' := by
  obtain ⟨hmem, hnm⟩ := getE_some hg
  obtain ⟨hvw, hsf, hle, hok, hby⟩ := H.ents en hmem
  have hb : StepTo R R w w.drew := .of_below H (Below.refl _ w).drew
  obtain ⟨w1, hr1, hst1⟩ := drop_from hb old hs 1
  have hb1 : StepTo R { R with es := delE old.data.toList R.es } w w1.drew := hst1.trans (.of_below hst1.fs (Below.refl _ w1).drew)
  obtain ⟨w2, hr2, hst2⟩ := put_from hb1 now hs' ⟨now.data.toList, en.v, en.xs, en.safe⟩ rfl ⟨(show ViewAt w1.drew en.v en.xs from view_step H hb1 hmem), hsf, hle, hok', hby⟩
    (fun x hxm hne k o => pair_mem H.apart hmem (mem_delE.1 hxm).1 (by rw [hnm]; exact (mem_delE.1 hxm).2.symm) k o)
    (Nat.le_trans (length_putE_le _ _) (by have := length_delE_some H.sorted hg; have := H.many; show (delE old.data.toList R.es).length + 1 ≤ 64; omega))
    (fun k o _ hu => .inr (.inr ⟨en, hmem, hu⟩)) (fun k o _ hu => .inr (.inr ⟨en, hmem, hu⟩))
  unfold entV at hr2
  simp only at hr2
  rw [hv] at hr2
  have hres : renEs R old now = putE ⟨now.data.toList, en.v, en.xs, en.safe⟩ (delE old.data.toList R.es) := by unfold renEs; rw [hg]
  have hSS : ∀ w' R', StepTo R R' w w' → w'.cell? ⟨gf, 0, none⟩ = some (.pointer (some ⟨R.pb, 0, none⟩)) ∧ w'.cell? ⟨R.pb, 0, none⟩ = some (.map (some R.mb)) ∧ w'.cell? ⟨gn, 0, none⟩ = some (.string old) ∧ w'.cell? ⟨gx, 0, none⟩ = some (.slice a en.xs.length cap) ∧ w'.cell? ⟨gx, 1, none⟩ = some (.int .i64 en.safe) ∧ w'.cell? ⟨gm, 0, none⟩ = some (.string now) := fun w' R' h =>
    ⟨h.cell hf rfl (hfar _ (by simp)), by have := h.fs.mapc; rwa [h.pb, h.mb] at this, h.cell hn rfl (hfar _ (by simp)), h.cell hx rfl (hfar _ (by simp)), h.cell hx rfl (hfar _ (by simp)), h.cell hm rfl (hfar _ (by simp))⟩
  have HS1 := Lib.hid (hSS _ _ hb)
  have HS2 := Lib.hid (hSS _ _ hst1)
  have HS3 := Lib.hid (hSS _ _ hb1)
  have HS4 := Lib.hid (hSS _ _ hst2)
  have HP : Hid (StepTo R { R with es := renEs R old now } w w2) := Lib.hid (by rw [hres]; exact hst2)
  have HR1 := Lib.hid hr1
  clear hSS hres hst2 hb1 hst1 hb hvw hsf hle hok hby hmem hnm hfar hm hx hn hf hv hg hok' hs' hs H hr1
  generalize en.xs.length = n at *
  generalize en.safe = sf at *
  go_enter Tryd.func80, Tryd.ntmps80
  go_wp2_with (fail)
  go_region_held3 (fun w => w.cell? ⟨gf, 0, none⟩ = some (.pointer (some ⟨R.pb, 0, none⟩)) ∧ w.cell? ⟨R.pb, 0, none⟩ = some (.map (some R.mb)) ∧ w.cell? ⟨gn, 0, none⟩ = some (.string old) ∧ w.cell? ⟨gx, 0, none⟩ = some (.slice a n cap) ∧ w.cell? ⟨gx, 1, none⟩ = some (.int .i64 sf) ∧ w.cell? ⟨gm, 0, none⟩ = some (.string now))
    (first | (with_reducible exact HS1.out) | (with_reducible exact HS2.out))
    (first | (refine step_delete (by rfl) (.tmp 7) (.tmp 8) rfl _ _ rfl rfl w1 HR1.out ?_))
  go_wp2_with (fail)
  go_region_held3 (fun w => w.cell? ⟨gf, 0, none⟩ = some (.pointer (some ⟨R.pb, 0, none⟩)) ∧ w.cell? ⟨R.pb, 0, none⟩ = some (.map (some R.mb)) ∧ w.cell? ⟨gn, 0, none⟩ = some (.string old) ∧ w.cell? ⟨gx, 0, none⟩ = some (.slice a n cap) ∧ w.cell? ⟨gx, 1, none⟩ = some (.int .i64 sf) ∧ w.cell? ⟨gm, 0, none⟩ = some (.string now))
    (first | (with_reducible exact HS3.out) | (with_reducible exact HS4.out))
    (fail)
  go_wp2_with (fail)
  go_end0
  exact ⟨rfl, HP.out⟩
theorem names2 {w : World} {s t : ByteArray} {T : TypeId} : ∀ i u, [s, t][i]? = some u → ∃ g, some (⟨w.heap.size, 0, none⟩ : Addr) = some ⟨g, 0, none⟩ ∧ (w.alloc (.cells #[.string s, .string t] T)).cell? ⟨g, i, none⟩ = some (.string u) := by
  intro i u hi
  refine ⟨_, rfl, ?_⟩
  match i, hi with
  | 0, hi => cases hi; rw [cell_of_row _ _ 0 _ _ _ (heap_alloc_new w _)]; rfl
  | 1, hi => cases hi; rw [cell_of_row _ _ 1 _ _ _ (heap_alloc_new w _)]; rfl
set_option maxHeartbeats 4000000 in
theorem rename_any (R : FsR) (w : World) (H : FsAt w R) (s t : ByteArray) (hs : s.size ≤ maxLen) (ht : t.size ≤ maxLen) (hst : R.steps < 4611686018427387904) :
    Calls Tryd.prog 42 #[.pointer (some ⟨R.pb, 0, none⟩), .string s, .string t] w (StPost R (renE R s t) (renEs R s t) w) := by
  obtain ⟨W, hW⟩ : ∃ W, W = (((w.alloc (.cells #[.pointer (some ⟨R.pb, 0, none⟩)] 23)).alloc (.cells #[.string s] 9)).alloc (.cells #[.string t] 9)).alloc (.cells #[.string s, .string t] 9) := ⟨_, rfl⟩
  have hbW : Below w.heap.size w W := by rw [hW]; exact below4 _ _ _ _ _
  have hsW : W.heap.size = w.heap.size + 1 + 1 + 1 + 1 := by rw [hW]; simp
  have hbox : W.heap[w.heap.size]? = some (.cells #[.pointer (some ⟨R.pb, 0, none⟩)] 23 (0, 0)) ∧ W.heap[w.heap.size + 1]? = some (.cells #[.string s] 9 (0, 0)) ∧ W.heap[w.heap.size + 1 + 1]? = some (.cells #[.string t] 9 (0, 0)) := by
    have h := box3 w R s (.string t) 9
    rw [hW]
    exact ⟨(Below.heap_alloc _ _ _ (by simp; omega)).trans h.1, (Below.heap_alloc _ _ _ (by simp)).trans h.2.1, (Below.heap_alloc _ _ _ (by simp)).trans h.2.2⟩
  have hck : Calls Tryd.prog 49 #[.pointer (some ⟨R.pb, 0, none⟩), .slice (some ⟨w.heap.size + 1 + 1 + 1, 0, none⟩) 2 2] W fun e w' => e = .returned (errV (checkE R.down [s, t])) ∧ W = w' := by
    refine check_any R W (H.below hbW) _ 2 2 [s, t] rfl (by simp) ?_ (by intro x hx; simp at hx; rcases hx with rfl | rfl; exact hs; exact ht)
    have := @names2 (((w.alloc (.cells #[.pointer (some ⟨R.pb, 0, none⟩)] 23)).alloc (.cells #[.string s] 9)).alloc (.cells #[.string t] 9)) s t 9
    simp only [size_alloc] at this
    rw [hW]
    exact this
  have hf := find_any R W (H.below hbW) s hs
  have q0 : W.cell? ⟨w.heap.size, 0, none⟩ = some (.pointer (some ⟨R.pb, 0, none⟩)) := cell_at hbox.1 rfl
  have q1 : W.cell? ⟨w.heap.size + 1, 0, none⟩ = some (.string s) := cell_at hbox.2.1 rfl
  have HBW := Lib.hid hbW
  have HSW := Lib.hid hsW
  have HBOX := Lib.hid hbox
  have HH := Lib.hid H
  have HWW := Lib.hid hW
  cases hc : checkE R.down [s, t] with
  | some k =>
    have HE : Hid (renE R s t = some k) := Lib.hid (by unfold renE; rw [hc])
    rw [hc] at hck
    simp only [errV] at hck
    have HCK := Lib.hid hck
    clear hck hc hf H hs ht hW hbW hsW hbox hst
    go_enter Tryd.func42, Tryd.ntmps42
    go_wp2_with (fail)
    rw [← HWW.out]
    go_wp2_with (go_at_call 49; (with_reducible refine HCK.out.mono ?_); rintro e w1 ⟨rfl, rfl⟩)
    go_ret
    rw [HE.out]
    exact ⟨rfl, HBW.out⟩
  | none =>
    have hnok : nmOk t.data.toList = true := by
      unfold checkE at hc
      split at hc
      · rename_i hok
        unfold okNames at hok
        rw [List.all_eq_true] at hok
        exact hok t (by simp)
      · cases hc
    have HE0 : Hid (renE R s t = (findR R s).1) := Lib.hid (by unfold renE; rw [hc])
    rw [hc] at hck
    simp only [errV] at hck
    have HCK := Lib.hid hck
    clear hck hc
    obtain ⟨er, oe, hr⟩ : ∃ er oe, findR R s = (er, oe) := ⟨_, _, rfl⟩
    rw [hr] at hf HE0
    cases oe with
    | none =>
      obtain ⟨k, rfl⟩ := findR_none hr
      have hf' : Calls Tryd.prog 52 #[.pointer (some ⟨R.pb, 0, none⟩), .string s] W fun e w' => e = .returned (.tuple #[.agg #[.slice none 0 0, .int .i64 0], .iface 117 (.int .i64 k)]) ∧ Below W.heap.size W w' := hf.mono fun e w' ⟨he, hb⟩ => ⟨he, hb⟩
      have HF := Lib.hid hf'
      clear hf hf' H hs ht hr hW hbW hsW hbox hst hnok
      go_enter Tryd.func42, Tryd.ntmps42
      go_wp2_with (fail)
      rw [← HWW.out]
      go_wp2_with (first | (go_at_call 49; (with_reducible refine HCK.out.mono ?_); rintro e w1 ⟨rfl, rfl⟩) | (go_at_call 52; (with_reducible refine HF.out.mono ?_); rintro e w1 ⟨rfl, hb⟩; have HB := Lib.hid hb; clear hb))
      go_ret
      rw [HE0.out]
      exact ⟨rfl, Below.alloc0 (HBW.out.trans (HB.out.mono (by have := HSW.out; omega))) _⟩
    | some en =>
      obtain ⟨rfl, hm⟩ := findR_mem hr
      obtain ⟨a, cap, hv⟩ := (H.ents en (getE_some hm).1).1.len
      have hent : entV en = .agg #[.slice a en.xs.length cap, .int .i64 en.safe] := by unfold entV; rw [hv]
      have hf' : Calls Tryd.prog 52 #[.pointer (some ⟨R.pb, 0, none⟩), .string s] W fun e w' => e = .returned (.tuple #[.agg #[.slice a en.xs.length cap, .int .i64 en.safe], .nilIface]) ∧ Below W.heap.size W w' := by
        refine hf.mono fun e w' ⟨he, hb⟩ => ⟨?_, hb⟩
        rw [he]; show Ending.returned (.tuple #[entV en, Value.nilIface]) = _; rw [hent]
      have hcl : ∀ w1, Below W.heap.size W w1 → Calls Tryd.prog 51 #[.pointer (some ⟨R.pb, 0, none⟩), .func (.func 80) #[] #[.pointer (some ⟨w.heap.size, 0, none⟩), .pointer (some ⟨w.heap.size + 1, 0, none⟩), .pointer (some ⟨w1.heap.size, 0, none⟩), .pointer (some ⟨w.heap.size + 1 + 1, 0, none⟩)]] (w1.alloc (.cells #[.slice a en.xs.length cap, .int .i64 en.safe] 113)) (StPost R none (renEs R s t) (w1.alloc (.cells #[.slice a en.xs.length cap, .int .i64 en.safe] 113))) := fun w1 hb => by
        have hb1 : Below w.heap.size w w1 := hbW.trans (hb.mono (by omega))
        have hbV : Below w.heap.size w (w1.alloc (.cells #[.slice a en.xs.length cap, .int .i64 en.safe] 113)) := Below.alloc0 hb1 _
        have hsz := hb.size
        have b1 : (w1.alloc (.cells #[.slice a en.xs.length cap, .int .i64 en.safe] 113)).heap[w.heap.size]? = some (.cells #[.pointer (some ⟨R.pb, 0, none⟩)] 23 (0, 0)) := (Below.heap_alloc _ _ _ (by omega)).trans ((hb.block _ (by omega)).trans hbox.1)
        have b2 : (w1.alloc (.cells #[.slice a en.xs.length cap, .int .i64 en.safe] 113)).heap[w.heap.size + 1]? = some (.cells #[.string s] 9 (0, 0)) := (Below.heap_alloc _ _ _ (by omega)).trans ((hb.block _ (by omega)).trans hbox.2.1)
        have b3 : (w1.alloc (.cells #[.slice a en.xs.length cap, .int .i64 en.safe] 113)).heap[w.heap.size + 1 + 1]? = some (.cells #[.string t] 9 (0, 0)) := (Below.heap_alloc _ _ _ (by omega)).trans ((hb.block _ (by omega)).trans hbox.2.2)
        refine step_st R _ (H.below hbV) hst 80 _ (enters_of Tryd.func80 (by kernel_rfl) rfl) _ fun V1 hf1 hk1 => ?_
        exact renameC_any (stepR R) V1 hf1 s t hs ht hnok en hm a cap hv _ _ _ _ _ _ _ (keep_blk H hk1 (Nat.le_refl _) b1) (keep_blk H hk1 (by omega) b2) (keep_blk H hk1 (by omega) (heap_alloc_new w1 _)) (keep_blk H hk1 (by omega) b3)
          (fun k hk o hr => far_of H (by rcases hk with rfl | rfl | rfl | rfl <;> omega) o hr)
      have HCL := Lib.hid hcl
      have HF := Lib.hid hf'
      clear hf hf' H hs ht hr hW hbW hsW hbox hst hm hv hent hcl hnok
      generalize en.xs.length = m at *
      generalize en.safe = sf at *
      go_enter Tryd.func42, Tryd.ntmps42
      go_wp2_with (fail)
      rw [← HWW.out]
      go_wp2_with (first | (go_at_call 49; (with_reducible refine HCK.out.mono ?_); rintro e w1 ⟨rfl, rfl⟩) | (go_at_call 52; (with_reducible refine HF.out.mono ?_); rintro e w1 ⟨rfl, hb⟩; have hsz : w.heap.size + 1 + 1 < w1.heap.size := (by have h1 := hb.size; have h2 := HSW.out; omega); have hsz0 : w.heap.size < w1.heap.size := (by omega); have q2 : w1.cell? ⟨w.heap.size, 0, none⟩ = some (.pointer (some ⟨R.pb, 0, none⟩)) := below_cell hb HBOX.out.1 rfl; have HB := Lib.hid hb; clear hb) | (go_at_call 51; (with_reducible refine (HCL.out _ HB.out).mono ?_); rintro e w2 ⟨rfl, hp⟩; have HP := Lib.hid hp; clear hp))
      go_ret
      rw [HE0.out]
      exact ⟨rfl, (StepTo.of_below HH.out (Below.alloc0 (HBW.out.trans (HB.out.mono (by have := HSW.out; omega))) _)).trans HP.out⟩
end Go.Proofs.YtggcodobkmhkgaaDoor

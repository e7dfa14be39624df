/- Part 6 of the proof. -/
import Derived.Shelf.SlIter.Nil
import Derived.Shelf.SortM.Plain
import Derived.Shelf.SortM.SortNone
import Derived.Ground.GgzProg
import Derived.Ground.SlgmProg
import Derived.Test.YtilpohdidekenaaGreatDoorProg
import Derived.Test.YtilpohdidekenaaGreatDoorKl5
namespace Go.Proofs.YtilpohdidekenaaGreatDoor
set_option linter.unusedVariables false
set_option linter.unusedSimpArgs false
open Go.RowKit Go.Maps
set_option maxRecDepth 100000
def stR (R : FsR) (es : List Ent) : FsR := if R.armed = true ∧ R.left = 0 then downR R else { stepR R with es := es }
/-- what a call makes that answers er ahead of its step, and whose step leaves the files es -/
def StPost (R : FsR) (er : Option Nat) (es : List Ent) (w : World) (e : Ending) (w' : World) : Prop :=
  match er with
  | some n => e = .returned (errV (some n)) ∧ Below w.heap.size w w'
  | none => e = .returned (errV (apErr R)) ∧ StepTo R (stR R es) w w'
theorem step_st (R : FsR) (w : World) (H : FsAt w R) (hst : R.steps < 4611686018427387904) (c : Nat) (caps : Array Value) (henter : ∀ args w, (callFunc c args).run Tryz.prog w = .ok (.enter c args) w) (es : List Ent)
    (hcall : ∀ w1, FsAt w1 (stepR R) → Keep (fun k _ => k = R.pb) w w1 → Calls Tryz.prog c caps w1 fun e w2 => e = .returned (.tuple #[]) ∧ StepTo (stepR R) { stepR R with es := es } w1 w2) :
    Calls Tryz.prog 122 #[.pointer (some ⟨R.pb, 0, none⟩), .func (.func c) #[] caps] w (StPost R none es w) := by
  by_cases hdn : R.armed = true ∧ R.left = 0
  · refine (step_down R w H _ hdn.1 hdn.2).mono fun e w' ⟨he, hw⟩ => ?_
    show _ ∧ _
    unfold apErr stR
    rw [if_pos hdn, if_pos hdn]
    exact ⟨he, by rw [hw]; exact downR_to H⟩
  · refine (step_any R w H hst (fun h h' => hdn ⟨h, h'⟩) c caps henter (fun w2 => StepTo R { stepR R with es := es } w w2) (fun w1 hf hk => (hcall w1 hf hk).mono fun e w2 ⟨he, hs⟩ => ⟨he, (stepR_to hf hk).trans hs⟩)).mono fun e w' ⟨he, hw⟩ => ?_
    show _ ∧ _
    unfold apErr stR
    rw [if_neg hdn, if_neg hdn]
    exact ⟨he, hw⟩
theorem put_from' {R0 R : FsR} {w0 w : World} (b : StepTo R0 R w0 w) (s : ByteArray) (hs : s.size ≤ maxLen) (e : Ent) (hn : e.nm = s.data.toList) (he : EntOk w e) (hap : ∀ x ∈ R.es, x.nm ≠ e.nm → ApartE e x) (hm : (putE e R.es).length ≤ 64)
    (hu : ∀ k o, k < w0.heap.size → Used e.v k o → Reads R0 k o) (hsp : ∀ k o, k < w0.heap.size → Spare e.v k o → Foot R0 k o) :
    ∃ w', (Instr.mapUpdate 96 (.map (some R.mb)) (.string s) (entV e)).run Tryz.prog w = .ok () w' ∧ StepTo R0 { R with es := putE e R.es } w0 w' ∧ Keep (fun k _ => k = R.mb) w w' := by
  obtain ⟨w', hr, H', hk⟩ := b.fs.put s hs e hn he hap hm
  refine ⟨w', hr, ⟨H', b.keep.trans hk fun k o hk1 h => b.foot k o hk1 (.inr (.inl h)), b.pb, b.mb, fun k o hk1 hf => ?_, fun k o hk1 hf => ?_⟩, hk⟩
  · rcases hf with hf | hf | ⟨x, hx, hs'⟩
    · exact b.foot k o hk1 (.inl hf)
    · exact b.foot k o hk1 (.inr (.inl hf))
    · rcases mem_putE.1 hx with rfl | ⟨hx, _⟩
      · exact hsp k o hk1 hs'
      · exact b.foot k o hk1 (.inr (.inr ⟨x, hx, hs'⟩))
  · rcases hf with hf | hf | ⟨x, hx, hs'⟩
    · exact b.reads k o hk1 (.inl hf)
    · exact b.reads k o hk1 (.inr (.inl hf))
    · rcases mem_putE.1 hx with rfl | ⟨hx, _⟩
      · exact hu k o hk1 hs'
      · exact b.reads k o hk1 (.inr (.inr ⟨x, hx, hs'⟩))
theorem put_from {R0 R : FsR} {w0 w : World} (b : StepTo R0 R w0 w) (s : ByteArray) (hs : s.size ≤ maxLen) (e : Ent) (hn : e.nm = s.data.toList) (he : EntOk w e) (hap : ∀ x ∈ R.es, x.nm ≠ e.nm → ApartE e x) (hm : (putE e R.es).length ≤ 64)
    (hu : ∀ k o, k < w0.heap.size → Used e.v k o → Reads R0 k o) (hsp : ∀ k o, k < w0.heap.size → Spare e.v k o → Foot R0 k o) :
    ∃ w', (Instr.mapUpdate 96 (.map (some R.mb)) (.string s) (entV e)).run Tryz.prog w = .ok () w' ∧ StepTo R0 { R with es := putE e R.es } w0 w' :=
  have ⟨w', h1, h2, _⟩ := put_from' b s hs e hn he hap hm hu hsp
  ⟨w', h1, h2⟩
theorem drop_from {R0 R : FsR} {w0 w : World} (b : StepTo R0 R w0 w) (s : ByteArray) (hs : s.size ≤ maxLen) (ty : TypeId) :
    ∃ w', (Builtin.delete_ #[96, 9] ty #[.map (some R.mb), .string s]).run Tryz.prog w = .ok (.tuple #[]) w' ∧ StepTo R0 { R with es := delE s.data.toList R.es } w0 w' := by
  obtain ⟨w', hr, H', hk⟩ := b.fs.drop s hs ty
  refine ⟨w', hr, H', b.keep.trans hk fun k o hk1 h => b.foot k o hk1 (.inr (.inl h)), b.pb, b.mb, fun k o hk1 hf => b.foot k o hk1 ?_, fun k o hk1 hf => b.reads k o hk1 ?_⟩
  · rcases hf with hf | hf | ⟨x, hx, hs'⟩
    · exact .inl hf
    · exact .inr (.inl hf)
    · exact .inr (.inr ⟨x, (mem_delE.1 hx).1, hs'⟩)
  · rcases hf with hf | hf | ⟨x, hx, hs'⟩
    · exact .inl hf
    · exact .inr (.inl hf)
    · exact .inr (.inr ⟨x, (mem_delE.1 hx).1, hs'⟩)
/-- a block that no call of files turns -/
theorem StepTo.cell {R R' : FsR} {w w' : World} (h : StepTo R R' w w') {k i : Nat} {cs : Array Value} {T : TypeId} {v : Value} (hc : w.heap[k]? = some (.cells cs T (0, 0))) (hv : cs[i]? = some v) (hf : ∀ o, ¬ Reads R k o) : w'.cell? ⟨k, i, none⟩ = some v :=
  h.keep.cell hc (fun h => hf i h.reads) (by rw [cell_of_row w k i _ _ _ hc, hv])
theorem cell_at {w : World} {k i : Nat} {cs : Array Value} {T : TypeId} {v : Value} (hc : w.heap[k]? = some (.cells cs T (0, 0))) (hv : cs[i]? = some v) : w.cell? ⟨k, i, none⟩ = some v := by rw [cell_of_row w k i _ _ _ hc, hv]
theorem FsAt.mapc {w : World} {R : FsR} (h : FsAt w R) : w.cell? ⟨R.pb, 0, none⟩ = some (.map (some R.mb)) := by rw [h.cell]; rfl
set_option maxHeartbeats 2000000 in
theorem syncC_any (R : FsR) (w : World) (H : FsAt w R) (s : ByteArray) (hs : s.size ≤ maxLen) (en : Ent) (hg : getE s.data.toList R.es = some en) (a : Option Addr) (cap : Nat) (hv : en.v = .slice a en.xs.length cap) (gx gf gn : Nat) (T2 T3 : TypeId)
    (hx : w.heap[gx]? = some (.cells #[.slice a en.xs.length cap, .int .i64 en.safe] 107 (0, 0))) (hf : w.heap[gf]? = some (.cells #[.pointer (some ⟨R.pb, 0, none⟩)] T2 (0, 0))) (hn : w.heap[gn]? = some (.cells #[.string s] T3 (0, 0)))
    (hfar : ∀ k, k = gx ∨ k = gf ∨ k = gn → ∀ o, ¬ Reads R k o) :
    Calls Tryz.prog 128 #[.pointer (some ⟨gx, 0, none⟩), .pointer (some ⟨gf, 0, none⟩), .pointer (some ⟨gn, 0, none⟩)] w fun e w' => e = .returned (.tuple #[]) ∧ StepTo R { R with es := putE ⟨s.data.toList, en.v, en.xs, en.xs.length⟩ R.es } w w' := by
  obtain ⟨hmem, hnm⟩ := getE_some hg
  obtain ⟨hvw, hsf, hle, hok, hby⟩ := H.ents en hmem
  have hb : StepTo R R w w.drew := .of_below H (Below.refl _ w).drew
  obtain ⟨w2, hr, hst⟩ := put_from hb s hs ⟨s.data.toList, en.v, en.xs, en.xs.length⟩ rfl ⟨hvw.below (Below.refl _ w).drew, Nat.le_refl _, hle, by rw [← hnm]; exact hok, hby⟩
    (fun x hxm hne k o => pair_mem H.apart hmem hxm (by rw [hnm]; exact hne.symm) k o) (by rw [length_putE_some H.sorted hg]; exact H.many)
    (fun k o _ hu => .inr (.inr ⟨en, hmem, hu⟩)) (fun k o _ hu => .inr (.inr ⟨en, hmem, hu⟩))
  unfold entV at hr
  simp only at hr
  rw [hv] at hr
  have hfx : ∀ k, k = gx ∨ k = gf ∨ k = gn → ∀ o, ¬ Reads R k o := hfar
  have hS1 : w.drew.cell? ⟨gf, 0, none⟩ = some (.pointer (some ⟨R.pb, 0, none⟩)) ∧ w.drew.cell? ⟨R.pb, 0, none⟩ = some (.map (some R.mb)) ∧ w.drew.cell? ⟨gn, 0, none⟩ = some (.string s) ∧ w.drew.cell? ⟨gx, 0, none⟩ = some (.slice a en.xs.length cap) :=
    ⟨hb.cell hf rfl (hfx _ (.inr (.inl rfl))), hb.fs.mapc, hb.cell hn rfl (hfx _ (.inr (.inr rfl))), hb.cell hx rfl (hfx _ (.inl rfl))⟩
  have hS2 : w2.cell? ⟨gf, 0, none⟩ = some (.pointer (some ⟨R.pb, 0, none⟩)) ∧ w2.cell? ⟨R.pb, 0, none⟩ = some (.map (some R.mb)) ∧ w2.cell? ⟨gn, 0, none⟩ = some (.string s) ∧ w2.cell? ⟨gx, 0, none⟩ = some (.slice a en.xs.length cap) :=
    ⟨hst.cell hf rfl (hfx _ (.inr (.inl rfl))), hst.fs.mapc, hst.cell hn rfl (hfx _ (.inr (.inr rfl))), hst.cell hx rfl (hfx _ (.inl rfl))⟩
  have HS1 := Lib.hid hS1
  have HS2 := Lib.hid hS2
  have HP := Lib.hid hst
  generalize en.xs.length = n at *
  clear hS1 hS2 hst hfx hb hfar hn hf hx hvw hsf hle hok hby hmem hnm hg hv hs H
  go_enter Tryz.func128, Tryz.ntmps128
  go_region_held3 (fun w => w.cell? ⟨gf, 0, none⟩ = some (.pointer (some ⟨R.pb, 0, none⟩)) ∧ w.cell? ⟨R.pb, 0, none⟩ = some (.map (some R.mb)) ∧ w.cell? ⟨gn, 0, none⟩ = some (.string s) ∧ w.cell? ⟨gx, 0, none⟩ = some (.slice a n cap))
    (first | (with_reducible exact HS1.out) | (with_reducible exact HS2.out))
    (fail)
  go_wp2_with (fail)
  go_end0
  exact ⟨rfl, HP.out⟩
theorem findR_none {R : FsR} {s : ByteArray} {er : Option Nat} (h : findR R s = (er, none)) : ∃ n, er = some n := by
  unfold findR at h
  split at h
  · injection h with h _; exact ⟨_, h.symm⟩
  · split at h
    · injection h with _ h; cases h
    · injection h with h _; exact ⟨_, h.symm⟩
/-- blocks of a call's own stay while the file system's fields turn -/
theorem keep_blk {w V V1 : World} {R : FsR} (H : FsAt w R) (hk : Keep (fun k _ => k = R.pb) V V1) {k : Nat} (hk1 : w.heap.size ≤ k) {ob : Obj} (ho : V.heap[k]? = some ob) : V1.heap[k]? = some ob :=
  (hk.block k (Array.getElem?_eq_some_iff.1 ho).1 fun o h => by have := H.pb_lt; omega).trans ho
theorem far_of {w : World} {R : FsR} (H : FsAt w R) {k : Nat} (hk : w.heap.size ≤ k) (o : Nat) : ¬ Reads R k o := fun h => by have := H.reads_lt k o h; omega
/-- the boxes of f and a name -/
theorem box2 (w : World) (R : FsR) (s : ByteArray) : ((w.alloc (.cells #[.pointer (some ⟨R.pb, 0, none⟩)] 51)).alloc (.cells #[.string s] 9)).heap[w.heap.size]? = some (.cells #[.pointer (some ⟨R.pb, 0, none⟩)] 51 (0, 0)) ∧ ((w.alloc (.cells #[.pointer (some ⟨R.pb, 0, none⟩)] 51)).alloc (.cells #[.string s] 9)).heap[w.heap.size + 1]? = some (.cells #[.string s] 9 (0, 0)) := by
  have h2 := heap_alloc_new (w.alloc (.cells #[.pointer (some ⟨R.pb, 0, none⟩)] 51)) (.cells #[.string s] 9)
  rw [size_alloc] at h2
  exact ⟨by rw [Below.heap_alloc _ _ _ (by simp)]; exact heap_alloc_new w _, h2⟩
theorem below_cell {W w1 : World} (hb : Below W.heap.size W w1) {k i : Nat} {cs : Array Value} {T : TypeId} {v : Value} (hc : W.heap[k]? = some (.cells cs T (0, 0))) (hv : cs[i]? = some v) : w1.cell? ⟨k, i, none⟩ = some v :=
  cell_at ((hb.block k (Array.getElem?_eq_some_iff.1 hc).1).trans hc) hv
def syncEs (R : FsR) (s : ByteArray) : List Ent := putE ⟨s.data.toList, (match getE s.data.toList R.es with | some e => e.v | none => .slice none 0 0), fileXs (getE s.data.toList R.es), (fileXs (getE s.data.toList R.es)).length⟩ R.es
set_option maxHeartbeats 2000000 in
theorem sync_any (R : FsR) (w : World) (H : FsAt w R) (s : ByteArray) (hs : s.size ≤ maxLen) (hst : R.steps < 4611686018427387904) :
    Calls Tryz.prog 88 #[.pointer (some ⟨R.pb, 0, none⟩), .string s] w (StPost R (findR R s).1 (syncEs R s) w) := by
  obtain ⟨W, hW⟩ : ∃ W, W = (w.alloc (.cells #[.pointer (some ⟨R.pb, 0, none⟩)] 51)).alloc (.cells #[.string s] 9) := ⟨_, rfl⟩
  have hbW : Below w.heap.size w W := by rw [hW]; exact below2 _ _ _
  have hsW : W.heap.size = w.heap.size + 1 + 1 := by rw [hW]; simp
  have hbox := box2 w R s
  rw [← hW] at hbox
  have hf := find_any R W (H.below hbW) s hs
  obtain ⟨er, oe, hr⟩ : ∃ er oe, findR R s = (er, oe) := ⟨_, _, rfl⟩
  rw [hr] at hf ⊢
  have q0 : W.cell? ⟨w.heap.size, 0, none⟩ = some (.pointer (some ⟨R.pb, 0, none⟩)) := cell_at hbox.1 rfl
  have q1 : W.cell? ⟨w.heap.size + 1, 0, none⟩ = some (.string s) := cell_at hbox.2 rfl
  have HBW := Lib.hid hbW
  have HSW := Lib.hid hsW
  have HBOX := Lib.hid hbox
  have HH := Lib.hid H
  have HS := Lib.hid hs
  have HST := Lib.hid hst
  cases oe with
  | none =>
    obtain ⟨n, rfl⟩ := findR_none hr
    have hf' : Calls Tryz.prog 118 #[.pointer (some ⟨R.pb, 0, none⟩), .string s] W fun e w' => e = .returned (.tuple #[.agg #[.slice none 0 0, .int .i64 0], .iface 87 (.int .i64 n)]) ∧ Below W.heap.size W w' := hf.mono fun e w' ⟨he, hb⟩ => ⟨he, hb⟩
    have HF := Lib.hid hf'
    have HWW := Lib.hid hW
    clear hf hf' H hs hr hW hbW hsW hbox hst
    go_enter Tryz.func88, Tryz.ntmps88
    go_upto_region 1 with (fail)
    rw [← HWW.out]
    go_wp2_with (go_at_call 118; (with_reducible refine HF.out.mono ?_); rintro e w1 ⟨rfl, hb⟩; have HB := Lib.hid hb; clear hb)
    go_ret
    exact ⟨rfl, Below.alloc0 (HBW.out.trans (HB.out.mono (by have := HSW.out; omega))) _⟩
  | some en =>
    obtain ⟨rfl, hm⟩ := findR_mem hr
    obtain ⟨a, cap, hv⟩ := (H.ents en (getE_some hm).1).1.len
    have HES : Hid (syncEs R s = putE ⟨s.data.toList, en.v, en.xs, en.xs.length⟩ R.es) := Lib.hid (by unfold syncEs; rw [hm]; rfl)
    have hent : entV en = .agg #[.slice a en.xs.length cap, .int .i64 en.safe] := by unfold entV; rw [hv]
    have hf' : Calls Tryz.prog 118 #[.pointer (some ⟨R.pb, 0, none⟩), .string s] W fun e w' => e = .returned (.tuple #[.agg #[.slice a en.xs.length cap, .int .i64 en.safe], .nilIface]) ∧ Below W.heap.size W w' := by
      refine hf.mono fun e w' ⟨he, hb⟩ => ⟨?_, hb⟩
      rw [he]; show Ending.returned (.tuple #[entV en, Value.nilIface]) = _; rw [hent]
    have hcl : ∀ w1, Below W.heap.size W w1 → Calls Tryz.prog 122 #[.pointer (some ⟨R.pb, 0, none⟩), .func (.func 128) #[] #[.pointer (some ⟨w1.heap.size, 0, none⟩), .pointer (some ⟨w.heap.size, 0, none⟩), .pointer (some ⟨w.heap.size + 1, 0, none⟩)]] (w1.alloc (.cells #[.slice a en.xs.length cap, .int .i64 en.safe] 107)) (StPost R none (syncEs R s) (w1.alloc (.cells #[.slice a en.xs.length cap, .int .i64 en.safe] 107))) := fun w1 hb => by
      have hb1 : Below w.heap.size w w1 := hbW.trans (hb.mono (by omega))
      have hbV : Below w.heap.size w (w1.alloc (.cells #[.slice a en.xs.length cap, .int .i64 en.safe] 107)) := Below.alloc0 hb1 _
      have hsz := hb.size
      have b1 : (w1.alloc (.cells #[.slice a en.xs.length cap, .int .i64 en.safe] 107)).heap[w.heap.size]? = some (.cells #[.pointer (some ⟨R.pb, 0, none⟩)] 51 (0, 0)) := (Below.heap_alloc _ _ _ (by omega)).trans ((hb.block _ (by omega)).trans hbox.1)
      have b2 : (w1.alloc (.cells #[.slice a en.xs.length cap, .int .i64 en.safe] 107)).heap[w.heap.size + 1]? = some (.cells #[.string s] 9 (0, 0)) := (Below.heap_alloc _ _ _ (by omega)).trans ((hb.block _ (by omega)).trans hbox.2)
      refine step_st R _ (H.below hbV) hst 128 _ (enters_of Tryz.func128 (by kernel_rfl) rfl) _ fun V1 hf1 hk1 => ?_
      rw [HES.out]
      exact syncC_any (stepR R) V1 hf1 s hs en hm a cap hv _ _ _ _ _ (keep_blk H hk1 (by omega) (heap_alloc_new w1 _)) (keep_blk H hk1 (Nat.le_refl _) b1) (keep_blk H hk1 (by omega) b2)
        (fun k hk o hr => far_of H (by rcases hk with rfl | rfl | rfl <;> omega) o hr)
    have HCL := Lib.hid hcl
    have HF := Lib.hid hf'
    have HWW := Lib.hid hW
    generalize hxl : en.xs.length = n at *
    generalize hsl : en.safe = sf at *
    clear hf hf' H hs hr hW hbW hsW hbox hst hm hv hent hxl hsl hcl HES
    go_enter Tryz.func88, Tryz.ntmps88
    go_upto_region 1 with (fail)
    rw [← HWW.out]
    go_wp2_with (first | (go_at_call 118; (with_reducible refine HF.out.mono ?_); rintro e w1 ⟨rfl, hb⟩; have hsz : w.heap.size + 1 < w1.heap.size := (by have h1 := hb.size; have h2 := HSW.out; omega); have hsz0 : w.heap.size < w1.heap.size := (by omega); have q2 : w1.cell? ⟨w.heap.size, 0, none⟩ = some (.pointer (some ⟨R.pb, 0, none⟩)) := below_cell hb HBOX.out.1 rfl; have q3 : w1.cell? ⟨w.heap.size + 1, 0, none⟩ = some (.string s) := below_cell hb HBOX.out.2 rfl; have HB := Lib.hid hb; clear hb) | (go_at_call 122; (with_reducible refine (HCL.out _ HB.out).mono ?_); rintro e w2 ⟨rfl, hp⟩; have HP := Lib.hid hp; clear hp))
    go_ret
    exact ⟨rfl, (StepTo.of_below HH.out (Below.alloc0 (HBW.out.trans (HB.out.mono (by have := HSW.out; omega))) _)).trans HP.out⟩
end Go.Proofs.YtilpohdidekenaaGreatDoor
namespace Go.Proofs
set_option linter.unusedVariables false
set_option linter.unusedSimpArgs false
open Go.Shelf
def Tryz.keys93_ren : Go.Shelf.Ren := ⟨fun | 7 => 93 | 10 => 134 | n => n, fun | 23 => 96 | 26 => 9 | 3 => 107 | 28 => 159 | 0 => 0 | 27 => 158 | 33 => 148 | 4 => 4 | n => n, fun | n => n⟩
theorem Tryz.keys93 : Go.Proofs.SlLaysZ.n7 Tryz.prog Tryz.keys93_ren := {
  mixed := by kernel_rfl
  f7 := ⟨Tryz.f93.name, by decide, Tryz.func93.trans (congrArg some (by kernel_rfl))⟩
  f10 := ⟨Tryz.f134.name, by decide, Tryz.func134.trans (congrArg some (by kernel_rfl))⟩
  t0 := Tryz.underlying0
  a0 := Tryz.isAgg0
  z0 := Tryz.sizeOf0
  v0 := Tryz.zeroValue0
  t4 := Tryz.underlying4
  a4 := Tryz.isAgg4
  z4 := Tryz.sizeOf4
  v4 := Tryz.zeroValue4
  t23 := Tryz.underlying96
  a23 := Tryz.isAgg96
  z23 := Tryz.sizeOf96
  v23 := Tryz.zeroValue96
  t26 := Tryz.underlying9
  a26 := Tryz.isAgg9
  z26 := Tryz.sizeOf9
  v26 := Tryz.zeroValue9
  t27 := Tryz.underlying158
  a27 := Tryz.isAgg158
  z27 := Tryz.sizeOf158
  v27 := Tryz.zeroValue158
  t28 := Tryz.underlying159
  a28 := Tryz.isAgg159
  z28 := Tryz.sizeOf159
  v28 := Tryz.zeroValue159
  t33 := Tryz.underlying148
  a33 := Tryz.isAgg148
  z33 := Tryz.sizeOf148
  v33 := Tryz.zeroValue148 }
def Tryz.sorted92_ren : Go.Shelf.Ren := ⟨fun | 6 => 92 | 8 => 132 | 9 => 133 | 11 => 143 | 13 => 102 | 12 => 144 | 23 => 137 | 24 => 138 | 14 => 147 | 15 => 148 | 16 => 149 | 17 => 150 | 18 => 151 | 19 => 152 | 20 => 153 | 21 => 154 | 22 => 155 | 25 => 156 | 26 => 157 | 27 => 158 | 28 => 159 | 29 => 160 | 30 => 161 | 31 => 162 | n => n, fun | 26 => 9 | 28 => 159 | 24 => 104 | 0 => 0 | 3 => 3 | 37 => 50 | 48 => 167 | 50 => 79 | 4 => 4 | 40 => 227 | 39 => 226 | 45 => 232 | 5 => 5 | 9 => 9 | 51 => 234 | 55 => 238 | 57 => 240 | 58 => 241 | 33 => 148 | n => n, fun | n => n⟩
theorem Tryz.sorted92 : Go.Proofs.SlLaysZ.n6 Tryz.prog Tryz.sorted92_ren := {
  mixed := by kernel_rfl
  f6 := ⟨Tryz.f92.name, by decide, Tryz.func92.trans (congrArg some (by kernel_rfl))⟩
  f8 := ⟨Tryz.f132.name, by decide, Tryz.func132.trans (congrArg some (by kernel_rfl))⟩
  f11 := ⟨Tryz.f143.name, by decide, Tryz.func143.trans (congrArg some (by kernel_rfl))⟩
  t0 := Tryz.underlying0
  a0 := Tryz.isAgg0
  z0 := Tryz.sizeOf0
  v0 := Tryz.zeroValue0
  t24 := Tryz.underlying104
  a24 := Tryz.isAgg104
  z24 := Tryz.sizeOf104
  v24 := Tryz.zeroValue104
  t26 := Tryz.underlying9
  a26 := Tryz.isAgg9
  z26 := Tryz.sizeOf9
  v26 := Tryz.zeroValue9
  t28 := Tryz.underlying159
  a28 := Tryz.isAgg159
  z28 := Tryz.sizeOf159
  v28 := Tryz.zeroValue159
  i26 := by kernel_rfl }
def Tryz.sort133_ren : Go.Shelf.Ren := ⟨fun | 6 => 133 | 8 => 102 | 9 => 144 | 19 => 137 | 20 => 138 | 21 => 147 | 22 => 148 | 23 => 149 | 24 => 150 | 25 => 151 | 26 => 152 | 27 => 153 | 28 => 154 | 29 => 155 | 36 => 156 | 31 => 157 | 32 => 158 | 37 => 159 | 38 => 160 | 39 => 161 | 41 => 162 | n => n, fun | 27 => 104 | 29 => 9 | 3 => 3 | 32 => 50 | 26 => 104 | 0 => 0 | 44 => 167 | 46 => 79 | 4 => 4 | 36 => 227 | 35 => 226 | 41 => 232 | 5 => 5 | 9 => 9 | 53 => 234 | 57 => 238 | 63 => 240 | 64 => 241 | n => n, fun | n => n⟩
theorem Tryz.sort133 : Go.Proofs.SlLaysM.n6 Tryz.prog Tryz.sort133_ren := {
  mixed := by kernel_rfl
  f6 := ⟨Tryz.f133.name, by decide, Tryz.func133.trans (congrArg some (by kernel_rfl))⟩
  f8 := Tryz.func102.trans (congrArg some (by kernel_rfl))
  f9 := ⟨Tryz.f144.name, by decide, Tryz.func144.trans (congrArg some (by kernel_rfl))⟩
  f19 := Tryz.func137.trans (congrArg some (by kernel_rfl))
  f20 := Tryz.func138.trans (congrArg some (by kernel_rfl))
  f21 := ⟨Tryz.f147.name, by decide, Tryz.func147.trans (congrArg some (by kernel_rfl))⟩
  f22 := ⟨Tryz.f148.name, by decide, Tryz.func148.trans (congrArg some (by kernel_rfl))⟩
  f23 := ⟨Tryz.f149.name, by decide, Tryz.func149.trans (congrArg some (by kernel_rfl))⟩
  f24 := ⟨Tryz.f150.name, by decide, Tryz.func150.trans (congrArg some (by kernel_rfl))⟩
  f25 := ⟨Tryz.f151.name, by decide, Tryz.func151.trans (congrArg some (by kernel_rfl))⟩
  f26 := ⟨Tryz.f152.name, by decide, Tryz.func152.trans (congrArg some (by kernel_rfl))⟩
  f27 := ⟨Tryz.f153.name, by decide, Tryz.func153.trans (congrArg some (by kernel_rfl))⟩
  f28 := ⟨Tryz.f154.name, by decide, Tryz.func154.trans (congrArg some (by kernel_rfl))⟩
  f29 := ⟨Tryz.f155.name, by decide, Tryz.func155.trans (congrArg some (by kernel_rfl))⟩
  f31 := Tryz.func157.trans (congrArg some (by kernel_rfl))
  f32 := Tryz.func158.trans (congrArg some (by kernel_rfl))
  f36 := ⟨Tryz.f156.name, by decide, Tryz.func156.trans (congrArg some (by kernel_rfl))⟩
  f37 := ⟨Tryz.f159.name, by decide, Tryz.func159.trans (congrArg some (by kernel_rfl))⟩
  f38 := ⟨Tryz.f160.name, by decide, Tryz.func160.trans (congrArg some (by kernel_rfl))⟩
  f39 := ⟨Tryz.f161.name, by decide, Tryz.func161.trans (congrArg some (by kernel_rfl))⟩
  f41 := ⟨Tryz.f162.name, by decide, Tryz.func162.trans (congrArg some (by kernel_rfl))⟩
  t0 := Tryz.underlying0
  a0 := Tryz.isAgg0
  z0 := Tryz.sizeOf0
  v0 := Tryz.zeroValue0
  t3 := Tryz.underlying3
  a3 := Tryz.isAgg3
  z3 := Tryz.sizeOf3
  v3 := Tryz.zeroValue3
  t4 := Tryz.underlying4
  a4 := Tryz.isAgg4
  z4 := Tryz.sizeOf4
  v4 := Tryz.zeroValue4
  t5 := Tryz.underlying5
  a5 := Tryz.isAgg5
  z5 := Tryz.sizeOf5
  v5 := Tryz.zeroValue5
  t9 := Tryz.underlying9
  a9 := Tryz.isAgg9
  z9 := Tryz.sizeOf9
  v9 := Tryz.zeroValue9
  t26 := Tryz.underlying104
  a26 := Tryz.isAgg104
  z26 := Tryz.sizeOf104
  v26 := Tryz.zeroValue104
  t27 := Tryz.underlying104
  a27 := Tryz.isAgg104
  z27 := Tryz.sizeOf104
  v27 := Tryz.zeroValue104
  t29 := Tryz.underlying9
  a29 := Tryz.isAgg9
  z29 := Tryz.sizeOf9
  v29 := Tryz.zeroValue9
  t32 := Tryz.underlying50
  a32 := Tryz.isAgg50
  z32 := Tryz.sizeOf50
  v32 := Tryz.zeroValue50
  t35 := Tryz.underlying226
  a35 := Tryz.isAgg226
  z35 := Tryz.sizeOf226
  v35 := Tryz.zeroValue226
  t36 := Tryz.underlying227
  a36 := Tryz.isAgg227
  z36 := Tryz.sizeOf227
  v36 := Tryz.zeroValue227
  t41 := Tryz.underlying232
  a41 := Tryz.isAgg232
  z41 := Tryz.sizeOf232
  v41 := Tryz.zeroValue232
  t44 := Tryz.underlying167
  a44 := Tryz.isAgg167
  z44 := Tryz.sizeOf167
  v44 := Tryz.zeroValue167
  t46 := Tryz.underlying79
  a46 := Tryz.isAgg79
  z46 := Tryz.sizeOf79
  v46 := Tryz.zeroValue79
  t53 := Tryz.underlying234
  a53 := Tryz.isAgg234
  z53 := Tryz.sizeOf234
  v53 := Tryz.zeroValue234
  t57 := Tryz.underlying238
  a57 := Tryz.isAgg238
  z57 := Tryz.sizeOf238
  v57 := Tryz.zeroValue238
  t63 := Tryz.underlying240
  a63 := Tryz.isAgg240
  z63 := Tryz.sizeOf240
  v63 := Tryz.zeroValue240
  t64 := Tryz.underlying241
  a64 := Tryz.isAgg241
  z64 := Tryz.sizeOf241
  v64 := Tryz.zeroValue241 }
open Go.RowKit Go.Maps Go.Sort
theorem Tryz.sorts92 (m : Nat) : AnyZ.SortsIn Tryz.prog Tryz.sorted92_ren Fence.wide m :=
  ⟨fun blk off cap ss W hH hblk hsz => callsIn_wide.2 (AnyM.slices_Sort_string Tryz.sort133 blk off cap ss W hH hblk hsz),
   fun p cap W => callsIn_wide.2 (AnyM.slices_Sort_string_none Tryz.sort133 p cap W)⟩

theorem Tryz.maps_Keys_93 (mb : Option Nat) (W : World) : CallsIn Fence.wide 5 Tryz.prog 93 #[.map mb] W fun e w' => e = .returned (.func (.func 134) #[] #[.pointer (some ⟨W.heap.size, 0, none⟩)]) ∧ w' = W.alloc (.cells #[.map mb] 96) :=
  AnyZ.keys_in Tryz.keys93 Fence.wide 5 trivial rfl mb W

set_option maxHeartbeats 1000000 in
theorem Tryz.slices_Sorted_keys_92_93 {H : Type} (b nn : Nat) (D0 : DataW H) (R : Value → Option (DataW H × List MemPlace)) (w : World) (hown : w.ownsMap Tryz.prog 9 R b nn D0) (hmax : Maps.size D0 ≤ maxLen) (hbytes : Maps.size D0 * 16 ≤ 140737488355328) :
    CallsIn Fence.wide 5 Tryz.prog 92 #[.func (.func 134) #[] #[.pointer (some ⟨w.heap.size, 0, none⟩)]] (w.alloc (.cells #[.map (some b)] 96)) fun e w' => ∃ (v : Value) (ss : List (List UInt8)), e = .returned v ∧ ss.Perm (strKeys D0) ∧
      w'.ownsRow (w.alloc (.cells #[.map (some b)] 96)).heap.size 9 1 v ss.length ((ss.mergeSort (fun x y => decide (x ≤ y))).map encStr) ∧ (v = .slice none 0 0 ↔ ss = []) ∧ Below (w.alloc (.cells #[.map (some b)] 96)).heap.size (w.alloc (.cells #[.map (some b)] 96)) w' := by
  have hbl := hown.lt
  have hseq : SeqGives Fence.wide 2 Tryz.prog 134 #[.pointer (some ⟨w.heap.size, 0, none⟩)] encStr (fun ss => ss.Perm (strKeys D0)) (Maps.size D0) (w.alloc (.cells #[.map (some b)] 96)) :=
    AnyZ.keys_gives (ρ := Tryz.keys93_ren) { Tryz.keys93 with } Fence.wide _ trivial rfl (by omega) w.heap.size b nn D0 _ (by simp) (by simp) (by
      obtain ⟨es, clock, hb, Ft, hs, hD⟩ := hown
      exact ⟨es, clock, (Below.heap_alloc _ _ b hbl).trans hb, Ft, hs, hD⟩)
  exact AnyZ.sorted_in Tryz.sorted92 Fence.wide 5 trivial trivial trivial trivial rfl (by omega) (Tryz.sorts92 _) (enters_of Tryz.func133 (by kernel_rfl) rfl) 134 #[.pointer (some ⟨w.heap.size, 0, none⟩)] trivial (enters_of Tryz.func134 (by kernel_rfl) rfl) _ _ hmax hbytes _ hseq

set_option maxHeartbeats 1000000 in
theorem Tryz.slices_Sorted_keys_nil_92_93 (w : World) :
    CallsIn Fence.wide 5 Tryz.prog 92 #[.func (.func 134) #[] #[.pointer (some ⟨w.heap.size, 0, none⟩)]] (w.alloc (.cells #[.map none] 96)) fun e w' => ∃ (v : Value) (ss : List (List UInt8)), e = .returned v ∧ ss = [] ∧
      w'.ownsRow (w.alloc (.cells #[.map none] 96)).heap.size 9 1 v ss.length ((ss.mergeSort (fun x y => decide (x ≤ y))).map encStr) ∧ (v = .slice none 0 0 ↔ ss = []) ∧ Below (w.alloc (.cells #[.map none] 96)).heap.size (w.alloc (.cells #[.map none] 96)) w' := by
  have hseq : SeqGives Fence.wide 2 Tryz.prog 134 #[.pointer (some ⟨w.heap.size, 0, none⟩)] encStr (fun ss : List (List UInt8) => ss = []) 0 (w.alloc (.cells #[.map none] 96)) :=
    AnyZ.keys_gives_nil (ρ := Tryz.keys93_ren) { Tryz.keys93 with } Fence.wide _ trivial rfl w.heap.size _ (by simp) (by simp)
  exact AnyZ.sorted_in Tryz.sorted92 Fence.wide 5 trivial trivial trivial trivial rfl (by omega) (Tryz.sorts92 _) (enters_of Tryz.func133 (by kernel_rfl) rfl) 134 #[.pointer (some ⟨w.heap.size, 0, none⟩)] trivial (enters_of Tryz.func134 (by kernel_rfl) rfl) _ 0 (Nat.zero_le _) (by omega) _ hseq



end Go.Proofs
namespace Go.Proofs.YtilpohdidekenaaGreatDoor
set_option linter.unusedVariables false
set_option linter.unusedSimpArgs false
open Go.RowKit Go.Maps Go.Sort Go.Shelf
set_option maxRecDepth 100000
theorem list_none (w : World) : Calls Tryz.prog 46 #[.pointer none] w fun e w' => e = .returned (.slice none 0 0) ∧ w = w' := by
  go_enter Tryz.func46, Tryz.ntmps46
  go_wp2_with (fail)
  go_ret
  exact ⟨rfl, rfl⟩
/-- the names of all files -/
def namesE (es : List Ent) : List Value := es.map fun e => encStr e.nm
def ListPost (w : World) (es : List Ent) (e : Ending) (w' : World) : Prop := ∃ v, e = .returned v ∧ w'.ownsRow w.heap.size 9 1 v es.length (namesE es) ∧ Below w.heap.size w w'
set_option maxHeartbeats 2000000 in
theorem list_any (R : FsR) (w : World) (H : FsAt w R) : Calls Tryz.prog 46 #[.pointer (some ⟨R.pb, 0, none⟩)] w (ListPost w R.es) := by
  have hsz : Maps.size (entD R.es) ≤ 64 := by rw [entD_size]; exact H.many
  have c0 : w.cell? ⟨R.pb, 0, none⟩ = some (.map (some R.mb)) := H.mapc
  have hsorted := Tryz.slices_Sorted_keys_92_93 R.mb R.es.length (entD R.es) heldE w H.map (by unfold maxLen; omega) (by omega)
  have HSO := Lib.hid hsorted
  have HH := Lib.hid H
  clear hsorted hsz H
  refine (callsIn_wide (n := 6)).1 ?_
  have hfK : Fence.wide.fn 93 := trivial
  have hfS : Fence.wide.fn 92 := trivial
  refine callsIn_of_wp Tryz.func46 rfl trivial ?_ rfl
  simp only [Tryz.ntmps46, List.size_toArray, List.length_cons, List.length_nil, Nat.reduceAdd, Nat.reduceSub, Array.replicate_succ, Array.replicate_zero, List.push_toArray, List.append_toArray, List.nil_append, List.cons_append]
  gi_wp2_with (first
    | (gi_at_call 93; refine (Tryz.maps_Keys_93 _ _).mono ?_; rintro e w' ⟨rfl, rfl⟩)
    | (gi_at_call 92; refine HSO.out.mono ?_; rintro e w' ⟨v, ss, rfl, hS, hrow, hnil, hb⟩; have HS := Lib.hid hS; have HR := Lib.hid hrow; have HB := Lib.hid hb; clear hS hrow hb hnil))
  go_ret
  have h1 := names_sort HH.out.sorted HS.out
  have h2 : ss.length = R.es.length := by rw [← List.length_mergeSort (le := fun x y => decide (x ≤ y)), h1, List.length_map]
  have h3 := HR.out
  rw [h1, h2, List.map_map] at h3
  exact ⟨v, rfl, ownsRow_base_le h3 (by simp), (below1 _ _).trans (HB.out.mono (by simp))⟩
end Go.Proofs.YtilpohdidekenaaGreatDoor
namespace Go.Proofs.YtilpohdidekenaaGreatDoor
set_option linter.unusedVariables false
set_option linter.unusedSimpArgs false
open Go.RowKit Go.Maps
set_option maxRecDepth 100000
theorem ent_eq {es : List Ent} (h : SortedE es) {e x : Ent} (he : e ∈ es) (hx : x ∈ es) (hn : e.nm = x.nm) : e = x := by
  have := sorted_nodup h
  clear h
  induction es with
  | nil => cases he
  | cons y r ih =>
    obtain ⟨g1, g2⟩ := List.pairwise_cons.1 this
    rcases List.mem_cons.1 he with e1 | h1'
    · rcases List.mem_cons.1 hx with e2 | h2'
      · exact e1.trans e2.symm
      · exact absurd (by rw [← e1]; exact hn) (g1 x h2')
    · rcases List.mem_cons.1 hx with e2 | h2'
      · exact absurd (by rw [← e2]; exact hn.symm) (g1 e h1')
      · exact ih h1' h2' g2
/-- a file's bytes stay through a step -/
theorem view_step {R R' : FsR} {w w' : World} (H : FsAt w R) (h : StepTo R R' w w') {e : Ent} (he : e ∈ R.es) : ViewAt w' e.v e.xs := by
  refine (H.ents e he).1.keep h.keep fun k o hf hu => ?_
  rcases hf with rfl | rfl | ⟨x, hx, hs⟩
  · exact absurd hu (H.pb_u8 (H.ents e he) o)
  · exact absurd hu (H.mb_u8 (H.ents e he) o)
  · by_cases hn : x.nm = e.nm
    · rw [← ent_eq H.sorted hx he hn]; exact hs
    · exact absurd hu ((pair_mem H.apart hx he hn k o).1 hs)
theorem length_putE_le (e : Ent) (es : List Ent) : (putE e es).length ≤ es.length + 1 := by
  unfold putE; rw [length_insE]; exact Nat.succ_le_succ (List.length_filter_le _ _)
end Go.Proofs.YtilpohdidekenaaGreatDoor
namespace Go.Proofs.YtilpohdidekenaaGreatDoor
set_option linter.unusedVariables false
set_option linter.unusedSimpArgs false
open Go.RowKit Go.Maps Go.Proofs
set_option maxRecDepth 100000
/-- a file of which the first n bytes are left, all of them safe -/
def cutEnt (e : Ent) (n : Nat) : Ent := ⟨e.nm, firstV e.v n, e.xs.take n, n⟩
/-- how many bytes are left where the next number is k -/
def keptN (e : Ent) (k : Int) : Nat := e.safe + (min (max k 0) ((e.xs.length : Int) - e.safe)).toNat
def startEs : List Ent → List Int → List Ent
  | [], _ => []
  | e :: r, ks => if e.xs.length = e.safe then e :: startEs r ks else match ks with
    | [] => cutEnt e e.safe :: startEs r []
    | k :: t => cutEnt e (keptN e k) :: startEs r t
theorem insE_mid {e' : Ent} : ∀ (done rest : List Ent), (∀ x ∈ done, bytesBefore x.nm e'.nm = true) → (∀ x ∈ rest, bytesBefore e'.nm x.nm = true) → insE e' (done ++ rest) = done ++ e' :: rest
  | [], [], _, _ => rfl
  | [], y :: r, _, h => by
    show insE e' (y :: r) = _
    unfold insE
    rw [if_pos (h y (by simp))]; rfl
  | x :: d, rest, h1, h2 => by
    show insE e' (x :: (d ++ rest)) = _
    unfold insE
    have hb := h1 x (by simp)
    have hn : ¬ bytesBefore e'.nm x.nm = true := fun h => by
      have := WideShapes.bytes_trans _ _ _ h hb
      rw [WideAt.bytes_irrefl] at this; cases this
    rw [if_neg hn, insE_mid d rest (fun y hy => h1 y (List.mem_cons_of_mem _ hy)) h2]
    rfl
theorem putE_mid {e e' : Ent} {done rest : List Ent} (hs : SortedE (done ++ e :: rest)) (hn : e'.nm = e.nm) : putE e' (done ++ e :: rest) = done ++ e' :: rest := by
  have h1 := List.pairwise_append.1 hs
  obtain ⟨h2, h3, h4⟩ := h1
  obtain ⟨h5, h6⟩ := List.pairwise_cons.1 h3
  have hne : ∀ {x : Ent}, bytesBefore x.nm e.nm = true ∨ bytesBefore e.nm x.nm = true → (!(x.nm == e'.nm)) = true := fun {x} h => by
    have : x.nm ≠ e'.nm := fun he => by
      rw [he, hn, WideAt.bytes_irrefl] at h
      rcases h with h | h <;> cases h
    simpa using this
  have hd : delE e'.nm (done ++ e :: rest) = done ++ rest := by
    unfold delE
    rw [List.filter_append, List.filter_cons_of_neg (by simp [hn]), List.filter_eq_self.2 fun x hx => hne (.inl (h4 x hx e (by simp))), List.filter_eq_self.2 fun x hx => hne (.inr (h5 x hx))]
  unfold putE
  rw [hd]
  exact insE_mid done rest (fun x hx => by rw [hn]; exact h4 x hx e (by simp)) (fun x hx => by rw [hn]; exact h5 x hx)
theorem getE_mid {e : Ent} {done rest : List Ent} (hs : SortedE (done ++ e :: rest)) : getE e.nm (done ++ e :: rest) = some e := by
  cases h : getE e.nm (done ++ e :: rest) with
  | none => exact absurd rfl (getE_none h e (by simp))
  | some x =>
    obtain ⟨h1, h2⟩ := getE_some h
    rw [ent_eq hs h1 (by simp) h2]
/-- v is a slice of the numbers ks, its array apart from the file system -/
def KeepIn (R : FsR) (w : World) (v : Value) (ks : List Int) : Prop :=
  ∃ a cap, v = .slice a ks.length cap ∧ ks.length ≤ cap ∧ cap ≤ maxLen ∧ (ks = [] ∨ ∃ ab ao, a = some ⟨ab, ao, none⟩ ∧ (∀ o, ¬ Reads R ab o) ∧ ab < w.heap.size ∧ ∀ i k, ks[i]? = some k → w.cell? ⟨ab, ao + i, none⟩ = some (.int .i64 k))
theorem KeepIn.step {R R' : FsR} {w w' : World} {v : Value} {ks : List Int} (h : KeepIn R w v ks) (hs : StepTo R R' w w') : KeepIn R w' v ks := by
  obtain ⟨a, cap, rfl, h1, h2, h3⟩ := h
  refine ⟨a, cap, rfl, h1, h2, h3.imp id ?_⟩
  rintro ⟨ab, ao, rfl, hr, hlt, hc⟩
  have hb := hs.keep.block ab hlt fun o hf => hr o hf.reads
  exact ⟨ab, ao, rfl, hr, Nat.lt_of_lt_of_le hlt hs.keep.size, fun i k hi => (World.cell?_of_block (w := w) hb).trans (hc i k hi)⟩
theorem KeepIn.turn {R : FsR} {w w' : World} {v : Value} {ks : List Int} (h : KeepIn R w v ks) (hw : ∀ k, k < w.heap.size → (∀ o, ¬ Reads R k o) → w'.heap[k]? = w.heap[k]?) (hsz : w.heap.size ≤ w'.heap.size) : KeepIn R w' v ks := by
  obtain ⟨a, cap, rfl, h1, h2, h3⟩ := h
  refine ⟨a, cap, rfl, h1, h2, h3.imp id ?_⟩
  rintro ⟨ab, ao, rfl, hr, hlt, hc⟩
  exact ⟨ab, ao, rfl, hr, Nat.lt_of_lt_of_le hlt hsz, fun i k hi => (World.cell?_of_block (w := w) (hw ab hlt hr)).trans (hc i k hi)⟩
theorem sliceKlo (a : Option Addr) (n cap p : Nat) (hp : p ≤ n) (w : World) : (Instr.slice 58 (.slice a n cap) (some (.int .i64 (p : Int))) none none).run Tryz.prog w = .ok (.slice (cutA a cap p) (n - p) (cap - p)) w := by
  have he : Tryz.prog.elem 58 = 3 := by kernel_rfl
  have hs : (sizeOf 3).run Tryz.prog w = .ok 1 w := by kernel_rfl
  rw [run_slice_l w 58 a n cap (by rw [he]; exact Tryz.underlying58) .i64 (p : Int) (by omega) (by omega), he, hs]
  simp [Result.andThen_ok, sliced, cutA]
theorem KeepIn.tail {R : FsR} {w : World} {a : Option Addr} {n cap : Nat} {k : Int} {ks : List Int} (h : KeepIn R w (.slice a n cap) (k :: ks)) : KeepIn R w (.slice (cutA a cap 1) (n - 1) (cap - 1)) ks := by
  obtain ⟨a', cap', e, hc, hm, hx⟩ := h
  injection e with e1 e2 e3
  subst e1 e2 e3
  refine ⟨cutA a cap 1, cap - 1, by simp, by simp only [List.length_cons] at hc; omega, by omega, ?_⟩
  by_cases he : ks = []
  · exact .inl he
  · right
    rcases hx with hx | ⟨ab, ao, rfl, hr, hlt, hx⟩
    · cases hx
    · have : 0 < ks.length := List.length_pos_iff.2 he
      refine ⟨ab, ao + 1, ?_, hr, hlt, fun i x hi => ?_⟩
      · unfold cutA
        rw [if_neg (by simp at hc; omega)]
        show some (Addr.add ⟨ab, ao, none⟩ 1) = _
        rw [Addr.add_mid]
      · have := hx (i + 1) x (by simpa using hi)
        rwa [show ao + 1 + i = ao + (i + 1) by omega]
end Go.Proofs.YtilpohdidekenaaGreatDoor

/- Part 12 of the proof. -/
import Derived.Test.YtggcodobkmhkgaaDoorFc11
namespace Go.Proofs.YtggcodobkmhkgaaDoor
set_option linter.unusedVariables false
set_option linter.unusedSimpArgs false
open Go.RowKit Go.Maps
set_option maxRecDepth 100000
def stR (R : FsR) (es : List Ent) : FsR := if R.armed = true ∧ R.left = 0 then downR R else { stepR R with es := es }
/-- what a call makes that answers er ahead of its step, and whose step leaves the files es -/
def StPost (R : FsR) (er : Option Nat) (es : List Ent) (w : World) (e : Ending) (w' : World) : Prop :=
  match er with
  | some n => e = .returned (errV (some n)) ∧ Below w.heap.size w w'
  | none => e = .returned (errV (apErr R)) ∧ StepTo R (stR R es) w w'
theorem step_st (R : FsR) (w : World) (H : FsAt w R) (hst : R.steps < 4611686018427387904) (c : Nat) (caps : Array Value) (henter : ∀ args w, (callFunc c args).run Tryd.prog w = .ok (.enter c args) w) (es : List Ent)
    (hcall : ∀ w1, FsAt w1 (stepR R) → Keep (fun k _ => k = R.pb) w w1 → Calls Tryd.prog c caps w1 fun e w2 => e = .returned (.tuple #[]) ∧ StepTo (stepR R) { stepR R with es := es } w1 w2) :
    Calls Tryd.prog 51 #[.pointer (some ⟨R.pb, 0, none⟩), .func (.func c) #[] caps] w (StPost R none es w) := by
  by_cases hdn : R.armed = true ∧ R.left = 0
  · refine (step_down R w H _ hdn.1 hdn.2).mono fun e w' ⟨he, hw⟩ => ?_
    show _ ∧ _
    unfold apErr stR
    rw [if_pos hdn, if_pos hdn]
    exact ⟨he, by rw [hw]; exact downR_to H⟩
  · refine (step_any R w H hst (fun h h' => hdn ⟨h, h'⟩) c caps henter (fun w2 => StepTo R { stepR R with es := es } w w2) (fun w1 hf hk => (hcall w1 hf hk).mono fun e w2 ⟨he, hs⟩ => ⟨he, (stepR_to hf hk).trans hs⟩)).mono fun e w' ⟨he, hw⟩ => ?_
    show _ ∧ _
    unfold apErr stR
    rw [if_neg hdn, if_neg hdn]
    exact ⟨he, hw⟩
theorem put_from' {R0 R : FsR} {w0 w : World} (b : StepTo R0 R w0 w) (s : ByteArray) (hs : s.size ≤ maxLen) (e : Ent) (hn : e.nm = s.data.toList) (he : EntOk w e) (hap : ∀ x ∈ R.es, x.nm ≠ e.nm → ApartE e x) (hm : (putE e R.es).length ≤ 64)
    (hu : ∀ k o, k < w0.heap.size → Used e.v k o → Reads R0 k o) (hsp : ∀ k o, k < w0.heap.size → Spare e.v k o → Foot R0 k o) :
    ∃ w', (Instr.mapUpdate 96 (.map (some R.mb)) (.string s) (entV e)).run Tryd.prog w = .ok () w' ∧ StepTo R0 { R with es := putE e R.es } w0 w' ∧ Keep (fun k _ => k = R.mb) w w' := by
  obtain ⟨w', hr, H', hk⟩ := b.fs.put s hs e hn he hap hm
  refine ⟨w', hr, ⟨H', b.keep.trans hk fun k o hk1 h => b.foot k o hk1 (.inr (.inl h)), b.pb, b.mb, fun k o hk1 hf => ?_, fun k o hk1 hf => ?_⟩, hk⟩
  · rcases hf with hf | hf | ⟨x, hx, hs'⟩
    · exact b.foot k o hk1 (.inl hf)
    · exact b.foot k o hk1 (.inr (.inl hf))
    · rcases mem_putE.1 hx with rfl | ⟨hx, _⟩
      · exact hsp k o hk1 hs'
      · exact b.foot k o hk1 (.inr (.inr ⟨x, hx, hs'⟩))
  · rcases hf with hf | hf | ⟨x, hx, hs'⟩
    · exact b.reads k o hk1 (.inl hf)
    · exact b.reads k o hk1 (.inr (.inl hf))
    · rcases mem_putE.1 hx with rfl | ⟨hx, _⟩
      · exact hu k o hk1 hs'
      · exact b.reads k o hk1 (.inr (.inr ⟨x, hx, hs'⟩))
theorem put_from {R0 R : FsR} {w0 w : World} (b : StepTo R0 R w0 w) (s : ByteArray) (hs : s.size ≤ maxLen) (e : Ent) (hn : e.nm = s.data.toList) (he : EntOk w e) (hap : ∀ x ∈ R.es, x.nm ≠ e.nm → ApartE e x) (hm : (putE e R.es).length ≤ 64)
    (hu : ∀ k o, k < w0.heap.size → Used e.v k o → Reads R0 k o) (hsp : ∀ k o, k < w0.heap.size → Spare e.v k o → Foot R0 k o) :
    ∃ w', (Instr.mapUpdate 96 (.map (some R.mb)) (.string s) (entV e)).run Tryd.prog w = .ok () w' ∧ StepTo R0 { R with es := putE e R.es } w0 w' :=
  have ⟨w', h1, h2, _⟩ := put_from' b s hs e hn he hap hm hu hsp
  ⟨w', h1, h2⟩
theorem drop_from {R0 R : FsR} {w0 w : World} (b : StepTo R0 R w0 w) (s : ByteArray) (hs : s.size ≤ maxLen) (ty : TypeId) :
    ∃ w', (Builtin.delete_ #[96, 9] ty #[.map (some R.mb), .string s]).run Tryd.prog w = .ok (.tuple #[]) w' ∧ StepTo R0 { R with es := delE s.data.toList R.es } w0 w' := by
  obtain ⟨w', hr, H', hk⟩ := b.fs.drop s hs ty
  refine ⟨w', hr, H', b.keep.trans hk fun k o hk1 h => b.foot k o hk1 (.inr (.inl h)), b.pb, b.mb, fun k o hk1 hf => b.foot k o hk1 ?_, fun k o hk1 hf => b.reads k o hk1 ?_⟩
  · rcases hf with hf | hf | ⟨x, hx, hs'⟩
    · exact .inl hf
    · exact .inr (.inl hf)
    · exact .inr (.inr ⟨x, (mem_delE.1 hx).1, hs'⟩)
  · rcases hf with hf | hf | ⟨x, hx, hs'⟩
    · exact .inl hf
    · exact .inr (.inl hf)
    · exact .inr (.inr ⟨x, (mem_delE.1 hx).1, hs'⟩)
/-- a block that no call of files turns -/
theorem StepTo.cell {R R' : FsR} {w w' : World} (h : StepTo R R' w w') {k i : Nat} {cs : Array Value} {T : TypeId} {v : Value} (hc : w.heap[k]? = some (.cells cs T (0, 0))) (hv : cs[i]? = some v) (hf : ∀ o, ¬ Reads R k o) : w'.cell? ⟨k, i, none⟩ = some v :=
  h.keep.cell hc (fun h => hf i h.reads) (by rw [cell_of_row w k i _ _ _ hc, hv])
theorem cell_at {w : World} {k i : Nat} {cs : Array Value} {T : TypeId} {v : Value} (hc : w.heap[k]? = some (.cells cs T (0, 0))) (hv : cs[i]? = some v) : w.cell? ⟨k, i, none⟩ = some v := by rw [cell_of_row w k i _ _ _ hc, hv]
theorem FsAt.mapc {w : World} {R : FsR} (h : FsAt w R) : w.cell? ⟨R.pb, 0, none⟩ = some (.map (some R.mb)) := by rw [h.cell]; rfl
set_option maxHeartbeats 2000000 in
theorem syncC_any (R : FsR) (w : World) (H : FsAt w R) (s : ByteArray) (hs : s.size ≤ maxLen) (en : Ent) (hg : getE s.data.toList R.es = some en) (a : Option Addr) (cap : Nat) (hv : en.v = .slice a en.xs.length cap) (gx gf gn : Nat) (T2 T3 : TypeId)
    (hx : w.heap[gx]? = some (.cells #[.slice a en.xs.length cap, .int .i64 en.safe] 113 (0, 0))) (hf : w.heap[gf]? = some (.cells #[.pointer (some ⟨R.pb, 0, none⟩)] T2 (0, 0))) (hn : w.heap[gn]? = some (.cells #[.string s] T3 (0, 0)))
    (hfar : ∀ k, k = gx ∨ k = gf ∨ k = gn → ∀ o, ¬ Reads R k o) :
    Calls Tryd.prog 55 #[.pointer (some ⟨gx, 0, none⟩), .pointer (some ⟨gf, 0, none⟩), .pointer (some ⟨gn, 0, none⟩)] w fun e w' => e = .returned (.tuple #[]) ∧ StepTo R { R with es := putE ⟨s.data.toList, en.v, en.xs, en.xs.length⟩ R.es } w w' := by
  obtain ⟨hmem, hnm⟩ := getE_some hg
  obtain ⟨hvw, hsf, hle, hok, hby⟩ := H.ents en hmem
  have hb : StepTo R R w w.drew := .of_below H (Below.refl _ w).drew
  obtain ⟨w2, hr, hst⟩ := put_from hb s hs ⟨s.data.toList, en.v, en.xs, en.xs.length⟩ rfl ⟨hvw.below (Below.refl _ w).drew, Nat.le_refl _, hle, by rw [← hnm]; exact hok, hby⟩
    (fun x hxm hne k o => pair_mem H.apart hmem hxm (by rw [hnm]; exact hne.symm) k o) (by rw [length_putE_some H.sorted hg]; exact H.many)
    (fun k o _ hu => .inr (.inr ⟨en, hmem, hu⟩)) (fun k o _ hu => .inr (.inr ⟨en, hmem, hu⟩))
  unfold entV at hr
  simp only at hr
  rw [hv] at hr
  have hfx : ∀ k, k = gx ∨ k = gf ∨ k = gn → ∀ o, ¬ Reads R k o := hfar
  have hS1 : w.drew.cell? ⟨gf, 0, none⟩ = some (.pointer (some ⟨R.pb, 0, none⟩)) ∧ w.drew.cell? ⟨R.pb, 0, none⟩ = some (.map (some R.mb)) ∧ w.drew.cell? ⟨gn, 0, none⟩ = some (.string s) ∧ w.drew.cell? ⟨gx, 0, none⟩ = some (.slice a en.xs.length cap) :=
    ⟨hb.cell hf rfl (hfx _ (.inr (.inl rfl))), hb.fs.mapc, hb.cell hn rfl (hfx _ (.inr (.inr rfl))), hb.cell hx rfl (hfx _ (.inl rfl))⟩
  have hS2 : w2.cell? ⟨gf, 0, none⟩ = some (.pointer (some ⟨R.pb, 0, none⟩)) ∧ w2.cell? ⟨R.pb, 0, none⟩ = some (.map (some R.mb)) ∧ w2.cell? ⟨gn, 0, none⟩ = some (.string s) ∧ w2.cell? ⟨gx, 0, none⟩ = some (.slice a en.xs.length cap) :=
    ⟨hst.cell hf rfl (hfx _ (.inr (.inl rfl))), hst.fs.mapc, hst.cell hn rfl (hfx _ (.inr (.inr rfl))), hst.cell hx rfl (hfx _ (.inl rfl))⟩
  have HS1 := Lib.hid hS1
  have HS2 := Lib.hid hS2
  have HP := Lib.hid hst
  generalize en.xs.length = n at *
  clear hS1 hS2 hst hfx hb hfar hn hf hx hvw hsf hle hok hby hmem hnm hg hv hs H
  go_enter Tryd.func55, Tryd.ntmps55
  go_region_held3 (fun w => w.cell? ⟨gf, 0, none⟩ = some (.pointer (some ⟨R.pb, 0, none⟩)) ∧ w.cell? ⟨R.pb, 0, none⟩ = some (.map (some R.mb)) ∧ w.cell? ⟨gn, 0, none⟩ = some (.string s) ∧ w.cell? ⟨gx, 0, none⟩ = some (.slice a n cap))
    (first | (with_reducible exact HS1.out) | (with_reducible exact HS2.out))
    (fail)
  go_wp2_with (fail)
  go_end0
  exact ⟨rfl, HP.out⟩
theorem findR_none {R : FsR} {s : ByteArray} {er : Option Nat} (h : findR R s = (er, none)) : ∃ n, er = some n := by
  unfold findR at h
  split at h
  · injection h with h _; exact ⟨_, h.symm⟩
  · split at h
    · injection h with _ h; cases h
    · injection h with h _; exact ⟨_, h.symm⟩
/-- blocks of a call's own stay while the file system's fields turn -/
theorem keep_blk {w V V1 : World} {R : FsR} (H : FsAt w R) (hk : Keep (fun k _ => k = R.pb) V V1) {k : Nat} (hk1 : w.heap.size ≤ k) {ob : Obj} (ho : V.heap[k]? = some ob) : V1.heap[k]? = some ob :=
  (hk.block k (Array.getElem?_eq_some_iff.1 ho).1 fun o h => by have := H.pb_lt; omega).trans ho
theorem far_of {w : World} {R : FsR} (H : FsAt w R) {k : Nat} (hk : w.heap.size ≤ k) (o : Nat) : ¬ Reads R k o := fun h => by have := H.reads_lt k o h; omega
/-- the boxes of f and a name -/
theorem box2 (w : World) (R : FsR) (s : ByteArray) : ((w.alloc (.cells #[.pointer (some ⟨R.pb, 0, none⟩)] 23)).alloc (.cells #[.string s] 9)).heap[w.heap.size]? = some (.cells #[.pointer (some ⟨R.pb, 0, none⟩)] 23 (0, 0)) ∧ ((w.alloc (.cells #[.pointer (some ⟨R.pb, 0, none⟩)] 23)).alloc (.cells #[.string s] 9)).heap[w.heap.size + 1]? = some (.cells #[.string s] 9 (0, 0)) := by
  have h2 := heap_alloc_new (w.alloc (.cells #[.pointer (some ⟨R.pb, 0, none⟩)] 23)) (.cells #[.string s] 9)
  rw [size_alloc] at h2
  exact ⟨by rw [Below.heap_alloc _ _ _ (by simp)]; exact heap_alloc_new w _, h2⟩
theorem below_cell {W w1 : World} (hb : Below W.heap.size W w1) {k i : Nat} {cs : Array Value} {T : TypeId} {v : Value} (hc : W.heap[k]? = some (.cells cs T (0, 0))) (hv : cs[i]? = some v) : w1.cell? ⟨k, i, none⟩ = some v :=
  cell_at ((hb.block k (Array.getElem?_eq_some_iff.1 hc).1).trans hc) hv
def syncEs (R : FsR) (s : ByteArray) : List Ent := putE ⟨s.data.toList, (match getE s.data.toList R.es with | some e => e.v | none => .slice none 0 0), fileXs (getE s.data.toList R.es), (fileXs (getE s.data.toList R.es)).length⟩ R.es
set_option maxHeartbeats 2000000 in
theorem sync_any (R : FsR) (w : World) (H : FsAt w R) (s : ByteArray) (hs : s.size ≤ maxLen) (hst : R.steps < 4611686018427387904) :
    Calls Tryd.prog 16 #[.pointer (some ⟨R.pb, 0, none⟩), .string s] w (StPost R (findR R s).1 (syncEs R s) w) := by
  obtain ⟨W, hW⟩ : ∃ W, W = (w.alloc (.cells #[.pointer (some ⟨R.pb, 0, none⟩)] 23)).alloc (.cells #[.string s] 9) := ⟨_, rfl⟩
  have hbW : Below w.heap.size w W := by rw [hW]; exact below2 _ _ _
  have hsW : W.heap.size = w.heap.size + 1 + 1 := by rw [hW]; simp
  have hbox := box2 w R s
  rw [← hW] at hbox
  have hf := find_any R W (H.below hbW) s hs
  obtain ⟨er, oe, hr⟩ : ∃ er oe, findR R s = (er, oe) := ⟨_, _, rfl⟩
  rw [hr] at hf ⊢
  have q0 : W.cell? ⟨w.heap.size, 0, none⟩ = some (.pointer (some ⟨R.pb, 0, none⟩)) := cell_at hbox.1 rfl
  have q1 : W.cell? ⟨w.heap.size + 1, 0, none⟩ = some (.string s) := cell_at hbox.2 rfl
  have HBW := Lib.hid hbW
  have HSW := Lib.hid hsW
  have HBOX := Lib.hid hbox
  have HH := Lib.hid H
  have HS := Lib.hid hs
  have HST := Lib.hid hst
  cases oe with
  | none =>
    obtain ⟨n, rfl⟩ := findR_none hr
    have hf' : Calls Tryd.prog 52 #[.pointer (some ⟨R.pb, 0, none⟩), .string s] W fun e w' => e = .returned (.tuple #[.agg #[.slice none 0 0, .int .i64 0], .iface 117 (.int .i64 n)]) ∧ Below W.heap.size W w' := hf.mono fun e w' ⟨he, hb⟩ => ⟨he, hb⟩
    have HF := Lib.hid hf'
    have HWW := Lib.hid hW
    clear hf hf' H hs hr hW hbW hsW hbox hst
    go_enter Tryd.func16, Tryd.ntmps16
    go_upto_region 1 with (fail)
    rw [← HWW.out]
    go_wp2_with (go_at_call 52; (with_reducible refine HF.out.mono ?_); rintro e w1 ⟨rfl, hb⟩; have HB := Lib.hid hb; clear hb)
    go_ret
    exact ⟨rfl, Below.alloc0 (HBW.out.trans (HB.out.mono (by have := HSW.out; omega))) _⟩
  | some en =>
    obtain ⟨rfl, hm⟩ := findR_mem hr
    obtain ⟨a, cap, hv⟩ := (H.ents en (getE_some hm).1).1.len
    have HES : Hid (syncEs R s = putE ⟨s.data.toList, en.v, en.xs, en.xs.length⟩ R.es) := Lib.hid (by unfold syncEs; rw [hm]; rfl)
    have hent : entV en = .agg #[.slice a en.xs.length cap, .int .i64 en.safe] := by unfold entV; rw [hv]
    have hf' : Calls Tryd.prog 52 #[.pointer (some ⟨R.pb, 0, none⟩), .string s] W fun e w' => e = .returned (.tuple #[.agg #[.slice a en.xs.length cap, .int .i64 en.safe], .nilIface]) ∧ Below W.heap.size W w' := by
      refine hf.mono fun e w' ⟨he, hb⟩ => ⟨?_, hb⟩
      rw [he]; show Ending.returned (.tuple #[entV en, Value.nilIface]) = _; rw [hent]
    have hcl : ∀ w1, Below W.heap.size W w1 → Calls Tryd.prog 51 #[.pointer (some ⟨R.pb, 0, none⟩), .func (.func 55) #[] #[.pointer (some ⟨w1.heap.size, 0, none⟩), .pointer (some ⟨w.heap.size, 0, none⟩), .pointer (some ⟨w.heap.size + 1, 0, none⟩)]] (w1.alloc (.cells #[.slice a en.xs.length cap, .int .i64 en.safe] 113)) (StPost R none (syncEs R s) (w1.alloc (.cells #[.slice a en.xs.length cap, .int .i64 en.safe] 113))) := fun w1 hb => by
      have hb1 : Below w.heap.size w w1 := hbW.trans (hb.mono (by omega))
      have hbV : Below w.heap.size w (w1.alloc (.cells #[.slice a en.xs.length cap, .int .i64 en.safe] 113)) := Below.alloc0 hb1 _
      have hsz := hb.size
      have b1 : (w1.alloc (.cells #[.slice a en.xs.length cap, .int .i64 en.safe] 113)).heap[w.heap.size]? = some (.cells #[.pointer (some ⟨R.pb, 0, none⟩)] 23 (0, 0)) := (Below.heap_alloc _ _ _ (by omega)).trans ((hb.block _ (by omega)).trans hbox.1)
      have b2 : (w1.alloc (.cells #[.slice a en.xs.length cap, .int .i64 en.safe] 113)).heap[w.heap.size + 1]? = some (.cells #[.string s] 9 (0, 0)) := (Below.heap_alloc _ _ _ (by omega)).trans ((hb.block _ (by omega)).trans hbox.2)
      refine step_st R _ (H.below hbV) hst 55 _ (enters_of Tryd.func55 (by kernel_rfl) rfl) _ fun V1 hf1 hk1 => ?_
      rw [HES.out]
      exact syncC_any (stepR R) V1 hf1 s hs en hm a cap hv _ _ _ _ _ (keep_blk H hk1 (by omega) (heap_alloc_new w1 _)) (keep_blk H hk1 (Nat.le_refl _) b1) (keep_blk H hk1 (by omega) b2)
        (fun k hk o hr => far_of H (by rcases hk with rfl | rfl | rfl <;> omega) o hr)
    have HCL := Lib.hid hcl
    have HF := Lib.hid hf'
    have HWW := Lib.hid hW
    generalize hxl : en.xs.length = n at *
    generalize hsl : en.safe = sf at *
    clear hf hf' H hs hr hW hbW hsW hbox hst hm hv hent hxl hsl hcl HES
    go_enter Tryd.func16, Tryd.ntmps16
    go_upto_region 1 with (fail)
    rw [← HWW.out]
    go_wp2_with (first | (go_at_call 52; (with_reducible refine HF.out.mono ?_); rintro e w1 ⟨rfl, hb⟩; have hsz : w.heap.size + 1 < w1.heap.size := (by have h1 := hb.size; have h2 := HSW.out; omega); have hsz0 : w.heap.size < w1.heap.size := (by omega); have q2 : w1.cell? ⟨w.heap.size, 0, none⟩ = some (.pointer (some ⟨R.pb, 0, none⟩)) := below_cell hb HBOX.out.1 rfl; have q3 : w1.cell? ⟨w.heap.size + 1, 0, none⟩ = some (.string s) := below_cell hb HBOX.out.2 rfl; have HB := Lib.hid hb; clear hb) | (go_at_call 51; (with_reducible refine (HCL.out _ HB.out).mono ?_); rintro e w2 ⟨rfl, hp⟩; have HP := Lib.hid hp; clear hp))
    go_ret
    exact ⟨rfl, (StepTo.of_below HH.out (Below.alloc0 (HBW.out.trans (HB.out.mono (by have := HSW.out; omega))) _)).trans HP.out⟩
end Go.Proofs.YtggcodobkmhkgaaDoor

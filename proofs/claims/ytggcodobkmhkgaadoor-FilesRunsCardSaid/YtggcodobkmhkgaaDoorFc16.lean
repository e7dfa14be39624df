/- Part 16 of the proof. -/
import Derived.Test.YtggcodobkmhkgaaDoorFc12
namespace Go.Proofs.YtggcodobkmhkgaaDoor
set_option linter.unusedVariables false
set_option linter.unusedSimpArgs false
open Go.RowKit Go.Maps
set_option maxRecDepth 100000
theorem step_delete {ops : Array Oper} {o : Oper} {a : Act} {w : World} {K : Act → World → Prop} {Q : Exit → Act → World → Prop} {E : Prop} (hw : Region.wanted o (yielded ops a.tmps) = true) (m x : Operand)
    (ho : o.op = .call { callee := .builtin .delete, args := #[m, x], argTypes := #[96, 9] }) (v y : Value) (hs : a.eval m = v) (hx : a.eval x = y) (w' : World) (hr : (Builtin.delete_ #[96, 9] o.type #[v, y]).run Tryd.prog w = .ok (.tuple #[]) w') (h : K (a.put o.dst (.tuple #[])) w') :
    if Region.wanted o (yielded ops a.tmps) = true then Oper.wp Tryd.prog o a w K Q else E := by
  rw [if_pos hw]
  unfold Oper.wp execOp
  simp only [ho, resolve, invoke, builtin, Sem.run_bind, Sem.run_pure, Result.andThen_ok, List.map_toArray, List.map_cons, List.map_nil, hs, hx, hr]
  exact h
set_option maxHeartbeats 2000000 in
theorem removeC_any (R : FsR) (w : World) (H : FsAt w R) (s : ByteArray) (hs : s.size ≤ maxLen) (gf gn : Nat) (T2 T3 : TypeId)
    (hf : w.heap[gf]? = some (.cells #[.pointer (some ⟨R.pb, 0, none⟩)] T2 (0, 0))) (hn : w.heap[gn]? = some (.cells #[.string s] T3 (0, 0))) (hfar : ∀ k, k = gf ∨ k = gn → ∀ o, ¬ Reads R k o) :
    Calls Tryd.prog 81 #[.pointer (some ⟨gf, 0, none⟩), .pointer (some ⟨gn, 0, none⟩)] w fun e w' => e = .returned (.tuple #[]) ∧ StepTo R { R with es := delE s.data.toList R.es } w w' := by
  have hb : StepTo R R w w.drew := .of_below H (Below.refl _ w).drew
  obtain ⟨w2, hr, hst⟩ := drop_from hb s hs 1
  have hS1 : w.drew.cell? ⟨gf, 0, none⟩ = some (.pointer (some ⟨R.pb, 0, none⟩)) ∧ w.drew.cell? ⟨R.pb, 0, none⟩ = some (.map (some R.mb)) ∧ w.drew.cell? ⟨gn, 0, none⟩ = some (.string s) :=
    ⟨hb.cell hf rfl (hfar _ (.inl rfl)), hb.fs.mapc, hb.cell hn rfl (hfar _ (.inr rfl))⟩
  have hS2 : w2.cell? ⟨gf, 0, none⟩ = some (.pointer (some ⟨R.pb, 0, none⟩)) ∧ w2.cell? ⟨R.pb, 0, none⟩ = some (.map (some R.mb)) ∧ w2.cell? ⟨gn, 0, none⟩ = some (.string s) :=
    ⟨hst.cell hf rfl (hfar _ (.inl rfl)), hst.fs.mapc, hst.cell hn rfl (hfar _ (.inr rfl))⟩
  have HS1 := Lib.hid hS1
  have HS2 := Lib.hid hS2
  have HP := Lib.hid hst
  have HR := Lib.hid hr
  clear hS1 hS2 hst hb hfar hn hf hs H hr
  go_enter Tryd.func81, Tryd.ntmps81
  go_region_held3 (fun w => w.cell? ⟨gf, 0, none⟩ = some (.pointer (some ⟨R.pb, 0, none⟩)) ∧ w.cell? ⟨R.pb, 0, none⟩ = some (.map (some R.mb)) ∧ w.cell? ⟨gn, 0, none⟩ = some (.string s))
    (first | (with_reducible exact HS1.out) | (with_reducible exact HS2.out))
    (first | (refine step_delete (by rfl) (.tmp 5) (.tmp 6) rfl _ _ rfl rfl w2 HR.out ?_))
  go_wp2_with (fail)
  go_end0
  exact ⟨rfl, HP.out⟩
set_option maxHeartbeats 2000000 in
theorem remove_any (R : FsR) (w : World) (H : FsAt w R) (s : ByteArray) (hs : s.size ≤ maxLen) (hst : R.steps < 4611686018427387904) :
    Calls Tryd.prog 43 #[.pointer (some ⟨R.pb, 0, none⟩), .string s] w (StPost R (findR R s).1 (delE s.data.toList R.es) w) := by
  obtain ⟨W, hW⟩ : ∃ W, W = (w.alloc (.cells #[.pointer (some ⟨R.pb, 0, none⟩)] 23)).alloc (.cells #[.string s] 9) := ⟨_, rfl⟩
  have hbW : Below w.heap.size w W := by rw [hW]; exact below2 _ _ _
  have hsW : W.heap.size = w.heap.size + 1 + 1 := by rw [hW]; simp
  have hbox := box2 w R s
  rw [← hW] at hbox
  have hf := find_any R W (H.below hbW) s hs
  obtain ⟨er, oe, hr⟩ : ∃ er oe, findR R s = (er, oe) := ⟨_, _, rfl⟩
  rw [hr] at hf ⊢
  have q0 : W.cell? ⟨w.heap.size, 0, none⟩ = some (.pointer (some ⟨R.pb, 0, none⟩)) := cell_at hbox.1 rfl
  have q1 : W.cell? ⟨w.heap.size + 1, 0, none⟩ = some (.string s) := cell_at hbox.2 rfl
  have HBW := Lib.hid hbW
  have HSW := Lib.hid hsW
  have HBOX := Lib.hid hbox
  have HH := Lib.hid H
  cases oe with
  | none =>
    obtain ⟨n, rfl⟩ := findR_none hr
    have hf' : Calls Tryd.prog 52 #[.pointer (some ⟨R.pb, 0, none⟩), .string s] W fun e w' => e = .returned (.tuple #[.agg #[.slice none 0 0, .int .i64 0], .iface 117 (.int .i64 n)]) ∧ Below W.heap.size W w' := hf.mono fun e w' ⟨he, hb⟩ => ⟨he, hb⟩
    have HF := Lib.hid hf'
    have HWW := Lib.hid hW
    clear hf hf' H hs hr hW hbW hsW hbox hst
    go_enter Tryd.func43, Tryd.ntmps43
    go_upto_region 1 with (fail)
    rw [← HWW.out]
    go_wp2_with (go_at_call 52; (with_reducible refine HF.out.mono ?_); rintro e w1 ⟨rfl, hb⟩; have HB := Lib.hid hb; clear hb)
    go_ret
    exact ⟨rfl, Below.alloc0 (HBW.out.trans (HB.out.mono (by have := HSW.out; omega))) _⟩
  | some en =>
    obtain ⟨rfl, hm⟩ := findR_mem hr
    obtain ⟨a, cap, hv⟩ := (H.ents en (getE_some hm).1).1.len
    have hent : entV en = .agg #[.slice a en.xs.length cap, .int .i64 en.safe] := by unfold entV; rw [hv]
    have hf' : Calls Tryd.prog 52 #[.pointer (some ⟨R.pb, 0, none⟩), .string s] W fun e w' => e = .returned (.tuple #[.agg #[.slice a en.xs.length cap, .int .i64 en.safe], .nilIface]) ∧ Below W.heap.size W w' := by
      refine hf.mono fun e w' ⟨he, hb⟩ => ⟨?_, hb⟩
      rw [he]; show Ending.returned (.tuple #[entV en, Value.nilIface]) = _; rw [hent]
    have hcl : ∀ w1, Below W.heap.size W w1 → Calls Tryd.prog 51 #[.pointer (some ⟨R.pb, 0, none⟩), .func (.func 81) #[] #[.pointer (some ⟨w.heap.size, 0, none⟩), .pointer (some ⟨w.heap.size + 1, 0, none⟩)]] (w1.alloc (.cells #[.slice a en.xs.length cap, .int .i64 en.safe] 113)) (StPost R none (delE s.data.toList R.es) (w1.alloc (.cells #[.slice a en.xs.length cap, .int .i64 en.safe] 113))) := fun w1 hb => by
      have hb1 : Below w.heap.size w w1 := hbW.trans (hb.mono (by omega))
      have hbV : Below w.heap.size w (w1.alloc (.cells #[.slice a en.xs.length cap, .int .i64 en.safe] 113)) := Below.alloc0 hb1 _
      have hsz := hb.size
      have b1 : (w1.alloc (.cells #[.slice a en.xs.length cap, .int .i64 en.safe] 113)).heap[w.heap.size]? = some (.cells #[.pointer (some ⟨R.pb, 0, none⟩)] 23 (0, 0)) := (Below.heap_alloc _ _ _ (by omega)).trans ((hb.block _ (by omega)).trans hbox.1)
      have b2 : (w1.alloc (.cells #[.slice a en.xs.length cap, .int .i64 en.safe] 113)).heap[w.heap.size + 1]? = some (.cells #[.string s] 9 (0, 0)) := (Below.heap_alloc _ _ _ (by omega)).trans ((hb.block _ (by omega)).trans hbox.2)
      refine step_st R _ (H.below hbV) hst 81 _ (enters_of Tryd.func81 (by kernel_rfl) rfl) _ fun V1 hf1 hk1 => ?_
      exact removeC_any (stepR R) V1 hf1 s hs _ _ _ _ (keep_blk H hk1 (Nat.le_refl _) b1) (keep_blk H hk1 (by omega) b2)
        (fun k hk o hr => far_of H (by rcases hk with rfl | rfl <;> omega) o hr)
    have HCL := Lib.hid hcl
    have HF := Lib.hid hf'
    have HWW := Lib.hid hW
    generalize en.xs.length = n at *
    generalize en.safe = sf at *
    clear hf hf' H hs hr hW hbW hsW hbox hst hm hv hent hcl
    go_enter Tryd.func43, Tryd.ntmps43
    go_upto_region 1 with (fail)
    rw [← HWW.out]
    go_wp2_with (first | (go_at_call 52; (with_reducible refine HF.out.mono ?_); rintro e w1 ⟨rfl, hb⟩; have hsz : w.heap.size + 1 < w1.heap.size := (by have h1 := hb.size; have h2 := HSW.out; omega); have hsz0 : w.heap.size < w1.heap.size := (by omega); have q2 : w1.cell? ⟨w.heap.size, 0, none⟩ = some (.pointer (some ⟨R.pb, 0, none⟩)) := below_cell hb HBOX.out.1 rfl; have q3 : w1.cell? ⟨w.heap.size + 1, 0, none⟩ = some (.string s) := below_cell hb HBOX.out.2 rfl; have HB := Lib.hid hb; clear hb) | (go_at_call 51; (with_reducible refine (HCL.out _ HB.out).mono ?_); rintro e w2 ⟨rfl, hp⟩; have HP := Lib.hid hp; clear hp))
    go_ret
    exact ⟨rfl, (StepTo.of_below HH.out (Below.alloc0 (HBW.out.trans (HB.out.mono (by have := HSW.out; omega))) _)).trans HP.out⟩
set_option maxHeartbeats 4000000 in
theorem cutC_any (R : FsR) (w : World) (H : FsAt w R) (s : ByteArray) (hs : s.size ≤ maxLen) (en : Ent) (hg : getE s.data.toList R.es = some en) (a : Option Addr) (cap : Nat) (hv : en.v = .slice a en.xs.length cap) (k : Nat) (hk : k ≤ en.xs.length) (gx gk gf gn : Nat) (T1 T2 T3 : TypeId)
    (hx : w.heap[gx]? = some (.cells #[.slice a en.xs.length cap, .int .i64 en.safe] 113 (0, 0))) (hkc : w.heap[gk]? = some (.cells #[.int .i64 (k : Int)] T1 (0, 0))) (hf : w.heap[gf]? = some (.cells #[.pointer (some ⟨R.pb, 0, none⟩)] T2 (0, 0))) (hn : w.heap[gn]? = some (.cells #[.string s] T3 (0, 0)))
    (hfar : ∀ k, k = gx ∨ k = gk ∨ k = gf ∨ k = gn → ∀ o, ¬ Reads R k o) :
    Calls Tryd.prog 82 #[.pointer (some ⟨gx, 0, none⟩), .pointer (some ⟨gk, 0, none⟩), .pointer (some ⟨gf, 0, none⟩), .pointer (some ⟨gn, 0, none⟩)] w fun e w' => e = .returned (.tuple #[]) ∧ StepTo R { R with es := putE ⟨s.data.toList, firstV en.v k, en.xs.take k, k⟩ R.es } w w' := by
  obtain ⟨hmem, hnm⟩ := getE_some hg
  obtain ⟨hvw, hsf, hle, hok, hby⟩ := H.ents en hmem
  have hd : Below w.heap.size w w.drew := (Below.refl _ w).drew
  have hput : ∀ w3, Below w.drew.heap.size w.drew w3 → ∃ w2, (Instr.mapUpdate 96 (.map (some R.mb)) (.string s) (.agg #[.slice a k k, .int .i64 (k : Int)])).run Tryd.prog w3 = .ok () w2 ∧ StepTo R { R with es := putE ⟨s.data.toList, firstV en.v k, en.xs.take k, k⟩ R.es } w w2 := fun w3 hb => by
    have hb3 : Below w.heap.size w w3 := hd.trans hb
    have hb : StepTo R R w w3 := .of_below H hb3
    have hl : (en.xs.take k).length = k := by rw [List.length_take]; omega
    obtain ⟨w2, hr, hst⟩ := put_from hb s hs ⟨s.data.toList, firstV en.v k, en.xs.take k, k⟩ rfl ⟨first_view (hvw.below hb3) k hk, by rw [hl]; exact Nat.le_refl _, by rw [hl]; omega, by rw [← hnm]; exact hok, fun x hx => hby x (List.mem_of_mem_take hx)⟩
      (fun x hxm hne k' o => ⟨fun hsp => (first_spare hsp).elim, fun hsp hu => (pair_mem H.apart hmem hxm (by rw [hnm]; exact hne.symm) k' o).2 hsp (first_used hvw hk hu)⟩) (by rw [length_putE_some H.sorted hg]; exact H.many)
      (fun k' o _ hu => .inr (.inr ⟨en, hmem, first_used hvw hk hu⟩)) (fun k' o _ hu => (first_spare hu).elim)
    unfold entV at hr
    simp only at hr
    rw [hv] at hr
    rw [hv]
    rw [hv] at hst
    exact ⟨w2, hr, hst⟩
  have hfirst := first_any en.v en.xs en.safe k w.drew (hvw.below hd) hk
  rw [hv] at hfirst
  have hfirst' : Calls Tryd.prog 48 #[.agg #[.slice a en.xs.length cap, .int .i64 en.safe], .int .i64 k] w.drew fun e w3 => e = .returned (.slice a k k) ∧ Below w.drew.heap.size w.drew w3 := hfirst.mono fun e w3 ⟨h1, h2⟩ => ⟨h1, h2⟩
  have hSS : ∀ w' R', StepTo R R' w w' → w'.cell? ⟨gf, 0, none⟩ = some (.pointer (some ⟨R.pb, 0, none⟩)) ∧ w'.cell? ⟨R.pb, 0, none⟩ = some (.map (some R.mb)) ∧ w'.cell? ⟨gn, 0, none⟩ = some (.string s) ∧ w'.cell? ⟨gx, 0, none⟩ = some (.slice a en.xs.length cap) ∧ w'.cell? ⟨gx, 1, none⟩ = some (.int .i64 en.safe) ∧ w'.cell? ⟨gk, 0, none⟩ = some (.int .i64 (k : Int)) := fun w' R' h =>
    ⟨h.cell hf rfl (hfar _ (by simp)), by have := h.fs.mapc; rwa [h.pb, h.mb] at this, h.cell hn rfl (hfar _ (by simp)), h.cell hx rfl (hfar _ (by simp)), h.cell hx rfl (hfar _ (by simp)), h.cell hkc rfl (hfar _ (by simp))⟩
  have hS1 := hSS w.drew R (.of_below H hd)
  have HSB : Hid (∀ w3, Below w.drew.heap.size w.drew w3 → w3.cell? ⟨gf, 0, none⟩ = some (.pointer (some ⟨R.pb, 0, none⟩)) ∧ w3.cell? ⟨R.pb, 0, none⟩ = some (.map (some R.mb)) ∧ w3.cell? ⟨gn, 0, none⟩ = some (.string s) ∧ w3.cell? ⟨gx, 0, none⟩ = some (.slice a en.xs.length cap) ∧ w3.cell? ⟨gx, 1, none⟩ = some (.int .i64 en.safe) ∧ w3.cell? ⟨gk, 0, none⟩ = some (.int .i64 (k : Int))) := Lib.hid fun w3 hb => hSS w3 R (.of_below H (hd.trans hb))
  have HSS := Lib.hid hSS
  have HPUT := Lib.hid hput
  have HFIRST := Lib.hid hfirst'
  have HS1 := Lib.hid hS1
  have hHx : True := trivial
  clear hS1 hSS hput hfirst hfirst' hfar hn hf hx hkc hvw hsf hle hok hby hmem hnm hg hv hs H hd hk
  generalize en.xs.length = n at *
  generalize en.safe = sf at *
  go_enter Tryd.func82, Tryd.ntmps82
  go_region_held3 (fun w => w.cell? ⟨gf, 0, none⟩ = some (.pointer (some ⟨R.pb, 0, none⟩)) ∧ w.cell? ⟨R.pb, 0, none⟩ = some (.map (some R.mb)) ∧ w.cell? ⟨gn, 0, none⟩ = some (.string s) ∧ w.cell? ⟨gx, 0, none⟩ = some (.slice a n cap) ∧ w.cell? ⟨gx, 1, none⟩ = some (.int .i64 sf) ∧ w.cell? ⟨gk, 0, none⟩ = some (.int .i64 (k : Int)))
    (first | (with_reducible exact HS1.out) | exact HSB.out _ HB3.out | exact HSS.out _ _ HP2.out)
    (first | (go_at_call 48; (with_reducible refine HFIRST.out.mono ?_); rintro e w3 ⟨rfl, hb3⟩; obtain ⟨w2, hr2, hst2⟩ := HPUT.out w3 hb3; have HB3 := Lib.hid hb3; have HP2 := Lib.hid hst2; clear hb3 hst2))
  go_wp2_with (fail)
  go_end0
  exact ⟨rfl, HP2.out⟩
def cutE (R : FsR) (s : ByteArray) (n : Int) : Option Nat :=
  match findR R s with
  | (some k, _) => some k
  | (none, oe) => if n < 0 ∨ ((fileXs oe).length : Int) < n then some 1 else none
def cutEs (R : FsR) (s : ByteArray) (n : Int) : List Ent := putE ⟨s.data.toList, firstV (match getE s.data.toList R.es with | some e => e.v | none => .slice none 0 0) n.toNat, (fileXs (getE s.data.toList R.es)).take n.toNat, n.toNat⟩ R.es
/-- the boxes of f, a name and a third argument -/
theorem box3 (w : World) (R : FsR) (s : ByteArray) (v : Value) (T : TypeId) : (((w.alloc (.cells #[.pointer (some ⟨R.pb, 0, none⟩)] 23)).alloc (.cells #[.string s] 9)).alloc (.cells #[v] T)).heap[w.heap.size]? = some (.cells #[.pointer (some ⟨R.pb, 0, none⟩)] 23 (0, 0)) ∧ (((w.alloc (.cells #[.pointer (some ⟨R.pb, 0, none⟩)] 23)).alloc (.cells #[.string s] 9)).alloc (.cells #[v] T)).heap[w.heap.size + 1]? = some (.cells #[.string s] 9 (0, 0)) ∧ (((w.alloc (.cells #[.pointer (some ⟨R.pb, 0, none⟩)] 23)).alloc (.cells #[.string s] 9)).alloc (.cells #[v] T)).heap[w.heap.size + 1 + 1]? = some (.cells #[v] T (0, 0)) := by
  have h := box2 w R s
  have h3 := heap_alloc_new ((w.alloc (.cells #[.pointer (some ⟨R.pb, 0, none⟩)] 23)).alloc (.cells #[.string s] 9)) (.cells #[v] T)
  simp only [size_alloc] at h3
  exact ⟨(Below.heap_alloc _ _ _ (by simp; omega)).trans h.1, (Below.heap_alloc _ _ _ (by simp)).trans h.2, h3⟩
set_option maxHeartbeats 4000000 in
theorem cut_any (R : FsR) (w : World) (H : FsAt w R) (s : ByteArray) (hs : s.size ≤ maxLen) (n : Int) (hst : R.steps < 4611686018427387904) :
    Calls Tryd.prog 44 #[.pointer (some ⟨R.pb, 0, none⟩), .string s, .int .i64 n] w (StPost R (cutE R s n) (cutEs R s n) w) := by
  obtain ⟨W, hW⟩ : ∃ W, W = ((w.alloc (.cells #[.pointer (some ⟨R.pb, 0, none⟩)] 23)).alloc (.cells #[.string s] 9)).alloc (.cells #[.int .i64 n] 3) := ⟨_, rfl⟩
  have hbW : Below w.heap.size w W := by rw [hW]; exact below3 _ _ _ _
  have hsW : W.heap.size = w.heap.size + 1 + 1 + 1 := by rw [hW]; simp
  have hbox := box3 w R s (.int .i64 n) 3
  rw [← hW] at hbox
  have hf := find_any R W (H.below hbW) s hs
  obtain ⟨er, oe, hr⟩ : ∃ er oe, findR R s = (er, oe) := ⟨_, _, rfl⟩
  rw [hr] at hf
  have q0 : W.cell? ⟨w.heap.size, 0, none⟩ = some (.pointer (some ⟨R.pb, 0, none⟩)) := cell_at hbox.1 rfl
  have q1 : W.cell? ⟨w.heap.size + 1, 0, none⟩ = some (.string s) := cell_at hbox.2.1 rfl
  have HBW := Lib.hid hbW
  have HSW := Lib.hid hsW
  have HBOX := Lib.hid hbox
  have HH := Lib.hid H
  cases oe with
  | none =>
    obtain ⟨k, rfl⟩ := findR_none hr
    have HE : Hid (cutE R s n = some k) := Lib.hid (by unfold cutE; rw [hr])
    have hf' : Calls Tryd.prog 52 #[.pointer (some ⟨R.pb, 0, none⟩), .string s] W fun e w' => e = .returned (.tuple #[.agg #[.slice none 0 0, .int .i64 0], .iface 117 (.int .i64 k)]) ∧ Below W.heap.size W w' := hf.mono fun e w' ⟨he, hb⟩ => ⟨he, hb⟩
    have HF := Lib.hid hf'
    have HWW := Lib.hid hW
    clear hf hf' H hs hr hW hbW hsW hbox hst
    go_enter Tryd.func44, Tryd.ntmps44
    go_upto_region 1 with (fail)
    rw [← HWW.out]
    go_wp2_with (go_at_call 52; (with_reducible refine HF.out.mono ?_); rintro e w1 ⟨rfl, hb⟩; have HB := Lib.hid hb; clear hb)
    go_ret
    rw [HE.out]
    exact ⟨rfl, Below.alloc0 (HBW.out.trans (HB.out.mono (by have := HSW.out; omega))) _⟩
  | some en =>
    obtain ⟨rfl, hm⟩ := findR_mem hr
    obtain ⟨a, cap, hv⟩ := (H.ents en (getE_some hm).1).1.len
    have hent : entV en = .agg #[.slice a en.xs.length cap, .int .i64 en.safe] := by unfold entV; rw [hv]
    have hf' : Calls Tryd.prog 52 #[.pointer (some ⟨R.pb, 0, none⟩), .string s] W fun e w' => e = .returned (.tuple #[.agg #[.slice a en.xs.length cap, .int .i64 en.safe], .nilIface]) ∧ Below W.heap.size W w' := by
      refine hf.mono fun e w' ⟨he, hb⟩ => ⟨?_, hb⟩
      rw [he]; show Ending.returned (.tuple #[entV en, Value.nilIface]) = _; rw [hent]
    have HF := Lib.hid hf'
    have HWW := Lib.hid hW
    by_cases hbad : n < 0 ∨ ((en.xs.length : Nat) : Int) < n
    · have HE : Hid (cutE R s n = some 1) := Lib.hid (by unfold cutE; rw [hr]; exact if_pos hbad)
      by_cases hneg : n < 0
      · have hd : decide (n < 0) = true := by simpa using hneg
        generalize en.xs.length = m at *
        generalize en.safe = sf at *
        clear hf hf' H hs hr hW hbW hsW hbox hst hm hv hent hbad hneg
        go_enter Tryd.func44, Tryd.ntmps44
        go_upto_region 1 with (fail)
        rw [← HWW.out]
        go_wp2_with (go_at_call 52; (with_reducible refine HF.out.mono ?_); rintro e w1 ⟨rfl, hb⟩; have hsz : w.heap.size + 1 + 1 < w1.heap.size := (by have h1 := hb.size; have h2 := HSW.out; omega); have q3 : w1.cell? ⟨w.heap.size + 1 + 1, 0, none⟩ = some (.int .i64 n) := below_cell hb HBOX.out.2.2 rfl; have HB := Lib.hid hb; clear hb)
        go_ret
        rw [HE.out]
        exact ⟨rfl, Below.alloc0 (HBW.out.trans (HB.out.mono (by have := HSW.out; omega))) _⟩
      · have hd : decide (n < 0) = false := by simpa using hneg
        have hd2 : decide (((en.xs.length : Nat) : Int) < n) = true := by simp; omega
        generalize en.xs.length = m at *
        generalize en.safe = sf at *
        clear hf hf' H hs hr hW hbW hsW hbox hst hm hv hent hbad hneg
        go_enter Tryd.func44, Tryd.ntmps44
        go_upto_region 1 with (fail)
        rw [← HWW.out]
        go_wp2_with (go_at_call 52; (with_reducible refine HF.out.mono ?_); rintro e w1 ⟨rfl, hb⟩; have hsz : w.heap.size + 1 + 1 < w1.heap.size := (by have h1 := hb.size; have h2 := HSW.out; omega); have q3 : w1.cell? ⟨w.heap.size + 1 + 1, 0, none⟩ = some (.int .i64 n) := below_cell hb HBOX.out.2.2 rfl; have HB := Lib.hid hb; clear hb)
        go_ret
        rw [HE.out]
        exact ⟨rfl, Below.alloc0 (HBW.out.trans (HB.out.mono (by have := HSW.out; omega))) _⟩
    · obtain ⟨k, rfl⟩ : ∃ k : Nat, n = (k : Int) := ⟨n.toNat, (Int.toNat_of_nonneg (by omega)).symm⟩
      have hk : k ≤ en.xs.length := by omega
      have HE : Hid (cutE R s (k : Int) = none ∧ cutEs R s (k : Int) = putE ⟨s.data.toList, firstV en.v k, en.xs.take k, k⟩ R.es) := Lib.hid ⟨by unfold cutE; rw [hr]; exact if_neg hbad, by unfold cutEs; rw [hm]; rfl⟩
      have hd : decide ((k : Int) < 0) = false := by simp
      have hd2 : decide (((en.xs.length : Nat) : Int) < (k : Int)) = false := by simp; omega
      have hd3 : decide (en.xs.length < k) = false := by simp; omega
      have hcl : ∀ w1, Below W.heap.size W w1 → Calls Tryd.prog 51 #[.pointer (some ⟨R.pb, 0, none⟩), .func (.func 82) #[] #[.pointer (some ⟨w1.heap.size, 0, none⟩), .pointer (some ⟨w.heap.size + 1 + 1, 0, none⟩), .pointer (some ⟨w.heap.size, 0, none⟩), .pointer (some ⟨w.heap.size + 1, 0, none⟩)]] (w1.alloc (.cells #[.slice a en.xs.length cap, .int .i64 en.safe] 113)) (StPost R none (putE ⟨s.data.toList, firstV en.v k, en.xs.take k, k⟩ R.es) (w1.alloc (.cells #[.slice a en.xs.length cap, .int .i64 en.safe] 113))) := fun w1 hb => by
        have hb1 : Below w.heap.size w w1 := hbW.trans (hb.mono (by omega))
        have hbV : Below w.heap.size w (w1.alloc (.cells #[.slice a en.xs.length cap, .int .i64 en.safe] 113)) := Below.alloc0 hb1 _
        have hsz := hb.size
        have b1 : (w1.alloc (.cells #[.slice a en.xs.length cap, .int .i64 en.safe] 113)).heap[w.heap.size]? = some (.cells #[.pointer (some ⟨R.pb, 0, none⟩)] 23 (0, 0)) := (Below.heap_alloc _ _ _ (by omega)).trans ((hb.block _ (by omega)).trans hbox.1)
        have b2 : (w1.alloc (.cells #[.slice a en.xs.length cap, .int .i64 en.safe] 113)).heap[w.heap.size + 1]? = some (.cells #[.string s] 9 (0, 0)) := (Below.heap_alloc _ _ _ (by omega)).trans ((hb.block _ (by omega)).trans hbox.2.1)
        have b3 : (w1.alloc (.cells #[.slice a en.xs.length cap, .int .i64 en.safe] 113)).heap[w.heap.size + 1 + 1]? = some (.cells #[.int .i64 (k : Int)] 3 (0, 0)) := (Below.heap_alloc _ _ _ (by omega)).trans ((hb.block _ (by omega)).trans hbox.2.2)
        refine step_st R _ (H.below hbV) hst 82 _ (enters_of Tryd.func82 (by kernel_rfl) rfl) _ fun V1 hf1 hk1 => ?_
        exact cutC_any (stepR R) V1 hf1 s hs en hm a cap hv k hk _ _ _ _ _ _ _ (keep_blk H hk1 (by omega) (heap_alloc_new w1 _)) (keep_blk H hk1 (by omega) b3) (keep_blk H hk1 (Nat.le_refl _) b1) (keep_blk H hk1 (by omega) b2)
          (fun k hk o hr => far_of H (by rcases hk with rfl | rfl | rfl | rfl <;> omega) o hr)
      have HCL := Lib.hid hcl
      clear hf hf' H hs hr hW hbW hsW hbox hst hm hv hent hcl hbad hk
      generalize en.xs.length = m at *
      generalize en.safe = sf at *
      go_enter Tryd.func44, Tryd.ntmps44
      go_upto_region 1 with (fail)
      rw [← HWW.out]
      go_wp2_with (first | (go_at_call 52; (with_reducible refine HF.out.mono ?_); rintro e w1 ⟨rfl, hb⟩; have hsz : w.heap.size + 1 + 1 < w1.heap.size := (by have h1 := hb.size; have h2 := HSW.out; omega); have hsz0 : w.heap.size < w1.heap.size := (by omega); have hsz1 : w.heap.size + 1 < w1.heap.size := (by omega); have q2 : w1.cell? ⟨w.heap.size, 0, none⟩ = some (.pointer (some ⟨R.pb, 0, none⟩)) := below_cell hb HBOX.out.1 rfl; have q3 : w1.cell? ⟨w.heap.size + 1 + 1, 0, none⟩ = some (.int .i64 (k : Int)) := below_cell hb HBOX.out.2.2 rfl; have HB := Lib.hid hb; clear hb) | (go_at_call 51; (with_reducible refine (HCL.out _ HB.out).mono ?_); rintro e w2 ⟨rfl, hp⟩; have HP := Lib.hid hp; clear hp))
      go_ret
      rw [HE.out.1, HE.out.2]
      exact ⟨rfl, (StepTo.of_below HH.out (Below.alloc0 (HBW.out.trans (HB.out.mono (by have := HSW.out; omega))) _)).trans HP.out⟩
end Go.Proofs.YtggcodobkmhkgaaDoor

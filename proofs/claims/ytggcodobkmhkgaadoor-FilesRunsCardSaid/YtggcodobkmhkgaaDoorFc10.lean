/- Part 10 of the proof. -/
import Derived.Test.YtggcodobkmhkgaaDoorFc9
namespace Go.Proofs.YtggcodobkmhkgaaDoor
set_option linter.unusedVariables false
set_option linter.unusedSimpArgs false
open Go.RowKit Go.Maps
set_option maxRecDepth 100000
theorem step_append_view {ops : Array Oper} {o : Oper} {a : Act} {w : World} {K : Act → World → Prop} {Q : Exit → Act → World → Prop} {E : Prop} (hw : Region.wanted o (yielded ops a.tmps) = true) (s x : Operand)
    (ho : o.op = .call { callee := .builtin .append, args := #[s, x], argTypes := #[30, 30] }) (hty : o.type = 30)
    (v y : Value) (hs : a.eval s = v) (hx : a.eval x = y) (v' : Value) (w' : World) (hr : (Builtin.append_ #[30, 30] 30 #[v, y]).run Tryd.prog w = .ok v' w') (h : K (a.put o.dst v') w') :
    if Region.wanted o (yielded ops a.tmps) = true then Oper.wp Tryd.prog o a w K Q else E := by
  rw [if_pos hw]
  unfold Oper.wp execOp
  simp only [ho, hty, resolve, invoke, builtin, Sem.run_bind, Sem.run_pure, Result.andThen_ok, List.map_toArray, List.map_cons, List.map_nil, hs, hx, hr]
  exact h
/-- what a step makes: of what there was nothing more may turn, nothing more is read -/
structure StepTo (R R' : FsR) (w w' : World) : Prop where
  fs : FsAt w' R'
  keep : Keep (Foot R) w w'
  pb : R'.pb = R.pb
  mb : R'.mb = R.mb
  foot : ∀ k o, k < w.heap.size → Foot R' k o → Foot R k o
  reads : ∀ k o, k < w.heap.size → Reads R' k o → Reads R k o
theorem StepTo.refl {R : FsR} {w : World} (h : FsAt w R) : StepTo R R w w := ⟨h, Keep.refl _ _, rfl, rfl, fun _ _ _ h => h, fun _ _ _ h => h⟩
theorem StepTo.trans {R R1 R2 : FsR} {w w1 w2 : World} (h : StepTo R R1 w w1) (k : StepTo R1 R2 w1 w2) : StepTo R R2 w w2 :=
  ⟨k.fs, h.keep.trans k.keep h.foot, k.pb.trans h.pb, k.mb.trans h.mb, fun i o hi hf => h.foot i o hi (k.foot i o (Nat.lt_of_lt_of_le hi h.keep.size) hf), fun i o hi hf => h.reads i o hi (k.reads i o (Nat.lt_of_lt_of_le hi h.keep.size) hf)⟩
theorem StepTo.of_below {R : FsR} {w w' : World} (h : FsAt w R) (hb : Below w.heap.size w w') : StepTo R R w w' := ⟨h.below hb, .of_below hb, rfl, rfl, fun _ _ _ h => h, fun _ _ _ h => h⟩
theorem Keep.cell {F : Nat → Nat → Prop} {w w' : World} (h : Keep F w w') {k i : Nat} {v : Value} {cs : Array Value} {T : TypeId} (hc : w.heap[k]? = some (.cells cs T (0, 0))) (hF : ¬ F k i) (hv : w.cell? ⟨k, i, none⟩ = some v) : w'.cell? ⟨k, i, none⟩ = some v := by
  obtain ⟨cur', h1, _, h2⟩ := h.row k cs T hc
  rw [cell_of_row w k i _ _ _ hc] at hv
  rw [cell_of_row w' k i _ _ _ h1, h2 i hF]; exact hv
theorem pair_mem {es : List Ent} (h : es.Pairwise ApartE) {a b : Ent} (ha : a ∈ es) (hb : b ∈ es) (hne : a.nm ≠ b.nm) : ApartE a b := by
  induction es with
  | nil => cases ha
  | cons y r ih =>
    obtain ⟨h1, h2⟩ := List.pairwise_cons.1 h
    rcases List.mem_cons.1 ha with e | ha'
    · subst e
      rcases List.mem_cons.1 hb with e | hb'
      · subst e; exact absurd rfl hne
      · exact h1 b hb'
    · rcases List.mem_cons.1 hb with e | hb'
      · subst e; exact fun k o => ⟨(h1 a ha' k o).2, (h1 a ha' k o).1⟩
      · exact ih h2 ha' hb'
/-- where cells behind a file's length alone turn, the files stay -/
theorem FsAt.keepSpare {w w' : World} {R : FsR} {v : Value} (h : FsAt w R) (hk : Keep (Spare v) w w') (hv : ∀ k o, Spare v k o → ∃ e ∈ R.es, e.v = v) : FsAt w' R := by
  have hpb : ∀ o, ¬ Spare v R.pb o := fun o hs => by
    obtain ⟨e, he, rfl⟩ := hv _ _ hs
    exact h.pb_u8 (h.ents e he) o hs.used
  have hmb : ∀ o, ¬ Spare v R.mb o := fun o hs => by
    obtain ⟨e, he, rfl⟩ := hv _ _ hs
    exact h.mb_u8 (h.ents e he) o hs.used
  refine ⟨(hk.block _ h.pb_lt hpb).trans h.own, ownsMap_keep h.map hk hmb, fun x hx => ⟨(h.ents x hx).1.keep hk fun k o hs hu => ?_, (h.ents x hx).2⟩, h.sorted, h.apart, h.many, h.leftOk⟩
  obtain ⟨e, he, rfl⟩ := hv _ _ hs
  by_cases hn : e.nm = x.nm
  · obtain rfl : e = x := by
      have := sorted_nodup h.sorted
      exact Classical.byContradiction fun hne => by
        have hp : ∀ {l : List Ent}, l.Pairwise (fun a b => a.nm ≠ b.nm) → e ∈ l → x ∈ l → False := fun {l} hl h1 h2 => by
          induction l with
          | nil => cases h1
          | cons y r ih =>
            obtain ⟨g1, g2⟩ := List.pairwise_cons.1 hl
            rcases List.mem_cons.1 h1 with e1 | h1'
            · rcases List.mem_cons.1 h2 with e2 | h2'
              · exact hne (e1.trans e2.symm)
              · exact g1 x h2' (by rw [← e1]; exact hn)
            · rcases List.mem_cons.1 h2 with e2 | h2'
              · exact g1 e h1' (by rw [← e2]; exact hn.symm)
              · exact ih g2 h1' h2'
        exact hp this he hx
    exact hs
  · exact absurd hu ((pair_mem h.apart he hx hn k o).1 hs)
theorem below_drew1 {w w1 : World} {B : Nat} (h : Below B w.drew w1) : Below B w w1 := ((Below.refl B w).drew).trans h
def AppPost (R : FsR) (nm : List UInt8) (xs : List Int) (safe : Nat) (w w' : World) : Prop := ∃ v', StepTo R { R with es := putE ⟨nm, v', xs, safe⟩ R.es } w w'
set_option maxHeartbeats 4000000 in
theorem appC_any (R : FsR) (w : World) (H : FsAt w R) (s : ByteArray) (hs : s.size ≤ maxLen) (hok : nmOk s.data.toList = true) (y : Value) (ys : List Int) (hy : BytesIn w y ys) (hyb : bytesOk ys) (hlen : (fileXs (getE s.data.toList R.es)).length + ys.length ≤ 16777216)
    (hmany : getE s.data.toList R.es = none → R.es.length < 64) (gx gb gf gn : Nat) (T1 T2 T3 : TypeId) (v : Value) (hv : fileV (getE s.data.toList R.es) = .agg #[v, .int .i64 (fileSafe (getE s.data.toList R.es))])
    (hx : w.heap[gx]? = some (.cells #[v, .int .i64 (fileSafe (getE s.data.toList R.es))] 113 (0, 0))) (hb : w.heap[gb]? = some (.cells #[y] T1 (0, 0))) (hf : w.heap[gf]? = some (.cells #[.pointer (some ⟨R.pb, 0, none⟩)] T2 (0, 0))) (hn : w.heap[gn]? = some (.cells #[.string s] T3 (0, 0)))
    (hfar : ∀ k, k = gx ∨ k = gb ∨ k = gf ∨ k = gn → ∀ o, ¬ Reads R k o) :
    Calls Tryd.prog 50 #[.pointer (some ⟨gx, 0, none⟩), .pointer (some ⟨gb, 0, none⟩), .pointer (some ⟨gf, 0, none⟩), .pointer (some ⟨gn, 0, none⟩)] w fun e w' => e = .returned (.tuple #[]) ∧ AppPost R s.data.toList (fileXs (getE s.data.toList R.es) ++ ys) (fileSafe (getE s.data.toList R.es)) w w' := by
  obtain ⟨oe, hoe⟩ : ∃ oe, getE s.data.toList R.es = oe := ⟨_, rfl⟩
  have hview : ViewAt w v (fileXs oe) := by
    rw [hoe] at hv
    cases oe with
    | none => injection hv with hv; have : v = .slice none 0 0 := by have := congrArg (·[0]?) hv; simpa using this.symm
              exact .inl ⟨this, rfl⟩
    | some e => injection hv with hv; have : v = e.v := by have := congrArg (·[0]?) hv; simpa using this.symm
                rw [this]; exact (H.ents e (getE_some hoe).1).1
  have hspare : ∀ k o, Spare v k o → ∃ e, oe = some e ∧ e ∈ R.es ∧ e.nm = s.data.toList ∧ e.v = v := fun k o hsp => by
    rw [hoe] at hv
    cases oe with
    | none => obtain ⟨a, n, c, h, _⟩ := hsp; injection hv with hv; have := congrArg (·[0]?) hv; simp at this; rw [h] at this; cases this
    | some e => injection hv with hv; exact ⟨e, rfl, (getE_some hoe).1, (getE_some hoe).2, by have := congrArg (·[0]?) hv; simpa using this⟩
  have hused : ∀ k o, Used v k o → ∃ e, oe = some e ∧ e ∈ R.es ∧ e.nm = s.data.toList ∧ e.v = v := fun k o hsp => by
    rw [hoe] at hv
    cases oe with
    | none => obtain ⟨a, n, c, h, _⟩ := hsp; injection hv with hv; have := congrArg (·[0]?) hv; simp at this; rw [h] at this; cases this
    | some e => injection hv with hv; exact ⟨e, rfl, (getE_some hoe).1, (getE_some hoe).2, by have := congrArg (·[0]?) hv; simpa using this⟩
  rw [hoe] at hlen hx hmany ⊢
  have hdw : Below w.heap.size w w.drew := (Below.refl _ w).drew
  obtain ⟨v', w1, hrun, hview1, hk1, hu1, hs1⟩ := run_append_view w.drew v (fileXs oe) (hview.below hdw) y ys (hy.below hdw) (by omega)
  obtain ⟨a1, cap1, hv1⟩ := hview1.len
  subst hv1
  have H1 : FsAt w1 R := (H.below hdw).keepSpare hk1 fun k o hsp => by
    obtain ⟨e, _, he, _, hev⟩ := hspare k o hsp
    exact ⟨e, he, hev⟩
  have hk1w : Keep (Foot R) w w1 := (Keep.of_below hdw).trans hk1 fun k o _ hsp => by
    obtain ⟨e, _, he, _, hev⟩ := hspare k o hsp
    exact .inr (.inr ⟨e, he, by rw [hev]; exact hsp⟩)
  have hxs : bytesOk (fileXs oe ++ ys) := fun x hx => by
    rcases List.mem_append.1 hx with hx | hx
    · cases oe with
      | none => cases hx
      | some e => exact (H.ents e (getE_some hoe).1).2.2.2.2 x hx
    · exact hyb x hx
  have hsafe : fileSafe oe ≤ (fileXs oe ++ ys).length := by
    rw [List.length_append]
    cases oe with
    | none => exact Nat.zero_le _
    | some e => exact Nat.le_trans (H.ents e (getE_some hoe).1).2.1 (Nat.le_add_right _ _)
  have hap : ∀ x ∈ R.es, x.nm ≠ s.data.toList → ApartE ⟨s.data.toList, .slice a1 (fileXs oe ++ ys).length cap1, fileXs oe ++ ys, fileSafe oe⟩ x := fun x hxm hne k o => by
    refine ⟨fun hsp hu => ?_, fun hsp hu => ?_⟩
    · rcases hs1 k o hsp with hsp | hk
      · obtain ⟨e, _, he, hen, rfl⟩ := hspare k o hsp
        exact (pair_mem H.apart he hxm (by rw [hen]; exact hne.symm) k o).1 hsp hu
      · have := (H.ents x hxm).1.lt k o hu
        have h2 : w.drew.heap.size = w.heap.size := rfl
        omega
    · rcases hu1 k o hu with hu | hk
      · obtain ⟨e, _, he, hen, rfl⟩ := hused k o hu
        exact (pair_mem H.apart he hxm (by rw [hen]; exact hne.symm) k o).2 hsp hu
      · have := (H.ents x hxm).1.lt k o hsp.used
        have h2 : w.drew.heap.size = w.heap.size := rfl
        omega
  have hm64 : (putE ⟨s.data.toList, .slice a1 (fileXs oe ++ ys).length cap1, fileXs oe ++ ys, fileSafe oe⟩ R.es).length ≤ 64 := by
    cases oe with
    | none => rw [length_putE_none hoe]; exact hmany rfl
    | some e => rw [length_putE_some H.sorted hoe]; exact H.many
  obtain ⟨w2, hrun2, H2, hk2⟩ := H1.put s hs ⟨s.data.toList, .slice a1 (fileXs oe ++ ys).length cap1, fileXs oe ++ ys, fileSafe oe⟩ rfl ⟨hview1, hsafe, by rw [List.length_append]; exact hlen, hok, hxs⟩ hap hm64
  have hstep : StepTo R { R with es := putE ⟨s.data.toList, .slice a1 (fileXs oe ++ ys).length cap1, fileXs oe ++ ys, fileSafe oe⟩ R.es } w w2 := by
    refine ⟨H2, hk1w.trans hk2 fun k o _ h => .inr (.inl h), rfl, rfl, fun k o hk hf => ?_, fun k o hk hf => ?_⟩
    · rcases hf with hf | hf | ⟨e, he, hsp⟩
      · exact .inl hf
      · exact .inr (.inl hf)
      · rcases mem_putE.1 he with rfl | ⟨he, _⟩
        · rcases hs1 k o hsp with hsp | hsp
          · obtain ⟨e, _, he, _, rfl⟩ := hspare k o hsp
            exact .inr (.inr ⟨e, he, hsp⟩)
          · have h2 : w.drew.heap.size = w.heap.size := rfl
            omega
        · exact .inr (.inr ⟨e, he, hsp⟩)
    · rcases hf with hf | hf | ⟨e, he, hsp⟩
      · exact .inl hf
      · exact .inr (.inl hf)
      · rcases mem_putE.1 he with rfl | ⟨he, _⟩
        · rcases hu1 k o hsp with hsp | hsp
          · obtain ⟨e, _, he, _, rfl⟩ := hused k o hsp
            exact .inr (.inr ⟨e, he, hsp⟩)
          · have h2 : w.drew.heap.size = w.heap.size := rfl
            omega
        · exact .inr (.inr ⟨e, he, hsp⟩)
  -- the cells that the region reads
  have hcell : ∀ {k : Nat} {cs : Array Value} {T : TypeId} {i : Nat} {u : Value}, (k = gx ∨ k = gb ∨ k = gf ∨ k = gn) → w.heap[k]? = some (.cells cs T (0, 0)) → cs[i]? = some u → w.drew.cell? ⟨k, i, none⟩ = some u ∧ w1.cell? ⟨k, i, none⟩ = some u ∧ w2.cell? ⟨k, i, none⟩ = some u := fun {k cs T i u} hk hc hu => by
    have h0 : w.cell? ⟨k, i, none⟩ = some u := by rw [cell_of_row w k i _ _ _ hc, hu]
    exact ⟨h0, hk1w.cell hc (fun hf => hfar k hk i hf.reads) h0, hstep.keep.cell hc (fun hf => hfar k hk i hf.reads) h0⟩
  have hcp : ∀ {w' : World} {R' : FsR}, FsAt w' R' → w'.cell? ⟨R'.pb, 0, none⟩ = some (.map (some R'.mb)) := fun h => by rw [h.cell]; rfl
  have hx0 := hcell (i := 0) (u := v) (.inl rfl) hx rfl
  have hx1 := hcell (i := 1) (u := .int .i64 (fileSafe oe)) (.inl rfl) hx rfl
  have hb0 := hcell (i := 0) (u := y) (.inr (.inl rfl)) hb rfl
  have hf0 := hcell (i := 0) (u := .pointer (some ⟨R.pb, 0, none⟩)) (.inr (.inr (.inl rfl))) hf rfl
  have hn0 := hcell (i := 0) (u := .string s) (.inr (.inr (.inr rfl))) hn rfl
  have hp0 := hcp (H.below hdw)
  have hp1 := hcp H1
  have hp2 := hcp H2
  have hS0 : w.drew.cell? ⟨gf, 0, none⟩ = some (.pointer (some ⟨R.pb, 0, none⟩)) ∧ w.drew.cell? ⟨R.pb, 0, none⟩ = some (.map (some R.mb)) ∧ w.drew.cell? ⟨gn, 0, none⟩ = some (.string s) ∧ w.drew.cell? ⟨gx, 0, none⟩ = some v ∧ w.drew.cell? ⟨gx, 1, none⟩ = some (.int .i64 (fileSafe oe)) ∧ w.drew.cell? ⟨gb, 0, none⟩ = some y := ⟨hf0.1, hp0, hn0.1, hx0.1, hx1.1, hb0.1⟩
  have hS1 : w1.cell? ⟨gf, 0, none⟩ = some (.pointer (some ⟨R.pb, 0, none⟩)) ∧ w1.cell? ⟨R.pb, 0, none⟩ = some (.map (some R.mb)) ∧ w1.cell? ⟨gn, 0, none⟩ = some (.string s) ∧ w1.cell? ⟨gx, 0, none⟩ = some v ∧ w1.cell? ⟨gx, 1, none⟩ = some (.int .i64 (fileSafe oe)) ∧ w1.cell? ⟨gb, 0, none⟩ = some y := ⟨hf0.2.1, hp1, hn0.2.1, hx0.2.1, hx1.2.1, hb0.2.1⟩
  have hS2 : w2.cell? ⟨gf, 0, none⟩ = some (.pointer (some ⟨R.pb, 0, none⟩)) ∧ w2.cell? ⟨R.pb, 0, none⟩ = some (.map (some R.mb)) ∧ w2.cell? ⟨gn, 0, none⟩ = some (.string s) ∧ w2.cell? ⟨gx, 0, none⟩ = some v ∧ w2.cell? ⟨gx, 1, none⟩ = some (.int .i64 (fileSafe oe)) ∧ w2.cell? ⟨gb, 0, none⟩ = some y := ⟨hf0.2.2, hp2, hn0.2.2, hx0.2.2, hx1.2.2, hb0.2.2⟩
  have HP : Hid (AppPost R s.data.toList (fileXs oe ++ ys) (fileSafe oe) w w2) := Lib.hid ⟨_, hstep⟩
  unfold entV at hrun2
  simp only [List.length_append] at hrun2 hrun
  clear hx0 hx1 hb0 hf0 hn0 hp0 hp1 hp2 hcp hcell hstep H2 hk2 hm64 hap hsafe hxs hk1w H1 hu1 hs1 hk1 hview1 hspare hused hview hfar hn hf hb hx hv hmany hlen hyb hy hok hs H
  have HS0 := Lib.hid hS0
  have HS1 := Lib.hid hS1
  have HS2 := Lib.hid hS2
  have HR1 := Lib.hid hrun
  clear hS1 hS2 hrun hoe
  go_enter Tryd.func50, Tryd.ntmps50
  go_region_held3 (fun w => w.cell? ⟨gf, 0, none⟩ = some (.pointer (some ⟨R.pb, 0, none⟩)) ∧ w.cell? ⟨R.pb, 0, none⟩ = some (.map (some R.mb)) ∧ w.cell? ⟨gn, 0, none⟩ = some (.string s) ∧ w.cell? ⟨gx, 0, none⟩ = some v ∧ w.cell? ⟨gx, 1, none⟩ = some (.int .i64 (fileSafe oe)) ∧ w.cell? ⟨gb, 0, none⟩ = some y)
    (first | (with_reducible exact HS0.out) | (with_reducible exact HS1.out) | (with_reducible exact HS2.out))
    (first | (refine step_append_view (by rfl) (.tmp 10) (.tmp 11) rfl rfl v y rfl rfl _ w1 HR1.out ?_))
  go_wp2_with (fail)
  go_end0
  exact ⟨rfl, HP.out⟩
end Go.Proofs.YtggcodobkmhkgaaDoor

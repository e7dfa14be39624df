/- Part 7 of the proof. -/
import Derived.Test.YtilpohdidekenaaGreatDoorKl6
namespace Go.Proofs.YtilpohdidekenaaGreatDoor
set_option linter.unusedVariables false
set_option linter.unusedSimpArgs false
open Go.RowKit Go.Maps Go.Proofs
set_option maxRecDepth 100000
def startR (R : FsR) (ks : List Int) : FsR := { R with es := startEs R.es ks, armed := false, left := 0, down := false }
theorem step_max2 {P : Program} {ops : Array Oper} {o : Oper} {a : Act} {w : World} {K : Act → World → Prop} {Q : Exit → Act → World → Prop} {E : Prop} (hw : Region.wanted o (yielded ops a.tmps) = true) (x y : Operand) (t : TypeId)
    (ho : o.op = .call { callee := .builtin .max, args := #[x, y], argTypes := #[t, t] }) (p q : Int) (hx : a.eval x = .int .i64 p) (hy : a.eval y = .int .i64 q) (r : Int) (hr : max p q = r) (h : K (a.put o.dst (.int .i64 r)) w) :
    if Region.wanted o (yielded ops a.tmps) = true then Oper.wp P o a w K Q else E := by
  rw [if_pos hw]
  have hrun := run_max_int2 (P := P) (w := w) #[t, t] o.type .i64 .i64 p q
  rw [show (if q > p then q else p) = r by rw [← hr]; split <;> omega] at hrun
  unfold Oper.wp
  simp only [execOp, ho, resolve, invoke, builtin, Sem.run_bind, Sem.run_pure, Result.andThen_ok, List.map_toArray, List.map_cons, List.map_nil, hx, hy, hrun]
  exact h
theorem step_min2 {P : Program} {ops : Array Oper} {o : Oper} {a : Act} {w : World} {K : Act → World → Prop} {Q : Exit → Act → World → Prop} {E : Prop} (hw : Region.wanted o (yielded ops a.tmps) = true) (x y : Operand) (t : TypeId)
    (ho : o.op = .call { callee := .builtin .min, args := #[x, y], argTypes := #[t, t] }) (p q : Int) (hx : a.eval x = .int .i64 p) (hy : a.eval y = .int .i64 q) (r : Int) (hr : min p q = r) (h : K (a.put o.dst (.int .i64 r)) w) :
    if Region.wanted o (yielded ops a.tmps) = true then Oper.wp P o a w K Q else E := by
  rw [if_pos hw]
  have hrun := run_min_int2 (P := P) (w := w) #[t, t] o.type .i64 .i64 p q
  rw [show (if q < p then q else p) = r by rw [← hr]; split <;> omega] at hrun
  unfold Oper.wp
  simp only [execOp, ho, resolve, invoke, builtin, Sem.run_bind, Sem.run_pure, Result.andThen_ok, List.map_toArray, List.map_cons, List.map_nil, hx, hy, hrun]
  exact h
/-- a round that cuts a file -/
theorem cut_round {R : FsR} {w0 w : World} {done rest : List Ent} {e : Ent} (H0 : FsAt w0 R) (b : StepTo R { R with es := done ++ e :: rest } w0 w) (hmem : e ∈ R.es) (n : Nat) (hn : n ≤ e.xs.length) (s : ByteArray) (hs : s.data.toList = e.nm) (a : Option Addr) (cap : Nat) (hv : e.v = .slice a e.xs.length cap) (w1 : World) (hb : Below w.heap.size w w1) :
    ∃ w2, (Instr.mapUpdate 96 (.map (some R.mb)) (.string s) (.agg #[.slice a n n, .int .i64 n])).run Tryz.prog w1 = .ok () w2 ∧ StepTo R { R with es := done ++ cutEnt e n :: rest } w0 w2 ∧ Keep (fun k _ => k = R.mb) w1 w2 := by
  have b1 : StepTo R { R with es := done ++ e :: rest } w0 w1 := b.trans (.of_below b.fs hb)
  have hok := b1.fs.ents e (by show e ∈ done ++ e :: rest; simp)
  have hl : (e.xs.take n).length = n := by rw [List.length_take]; omega
  obtain ⟨w2, hr, hst, hkm⟩ := put_from' b1 s (by have h64 := (nmOk_len hok.2.2.2.1).2; rw [← hs] at h64; unfold maxLen; show s.data.toList.length ≤ _; omega) (cutEnt e n) (by rw [hs]; rfl)
    ⟨first_view hok.1 n hn, by show n ≤ (e.xs.take n).length; omega, by show (e.xs.take n).length ≤ _; rw [hl]; have := hok.2.2.1; omega, hok.2.2.2.1, fun x hx => hok.2.2.2.2 x (List.mem_of_mem_take hx)⟩
    (fun x hxm hne k o => ⟨fun hsp => (first_spare hsp).elim, fun hsp hu => (pair_mem b1.fs.apart (show e ∈ done ++ e :: rest by simp) hxm hne.symm k o).2 hsp (first_used hok.1 hn hu)⟩)
    (by show (putE (cutEnt e n) (done ++ e :: rest)).length ≤ 64; rw [length_putE_some b1.fs.sorted (show getE (cutEnt e n).nm (done ++ e :: rest) = some e from getE_mid b1.fs.sorted)]; exact b1.fs.many)
    (fun k o _ hu => .inr (.inr ⟨e, hmem, first_used (H0.ents e hmem).1 hn hu⟩)) (fun k o _ hu => (first_spare hu).elim)
  have hput : putE (cutEnt e n) (done ++ e :: rest) = done ++ cutEnt e n :: rest := putE_mid b1.fs.sorted rfl
  rw [show ({ R with es := done ++ e :: rest } : FsR).es = done ++ e :: rest from rfl, hput] at hst
  unfold entV at hr
  simp only [cutEnt] at hr
  rw [hv] at hr
  exact ⟨w2, hr, hst, hkm⟩
def StartRel (R : FsR) (ks0 : List Int) (w0 : World) (av : Option Addr) (kv i : Value) (w : World) : Prop :=
  ∃ (done rest : List Ent) (ks : List Int), i = .int .i64 (done.length : Int) ∧ KeepIn R w kv ks ∧ StepTo R { R with es := done ++ rest } w0 w ∧ startEs R.es ks0 = done ++ startEs rest ks ∧ (done ++ rest).length = R.es.length ∧ (∀ e ∈ rest, e ∈ R.es) ∧ (∀ j e, rest[j]? = some e → R.es[done.length + j]? = some e) ∧
    (∀ j e, R.es[j]? = some e → ∃ gl, av = some ⟨gl, 0, none⟩ ∧ w.cell? ⟨gl, j, none⟩ = some (.string ⟨e.nm.toArray⟩) ∧ gl < w.heap.size ∧ ∀ o, ¬ Reads R gl o)
theorem StartRel.next {R : FsR} {ks0 : List Int} {w0 w : World} {av : Option Addr} {done rest : List Ent} {e : Ent} {ks' : List Int} (e' : Ent) (w2 : World) (kv' : Value) (i' : Value)
    (hb : StepTo R { R with es := done ++ e :: rest } w0 w) (hst : startEs R.es ks0 = done ++ e' :: startEs rest ks') (hl : (done ++ e :: rest).length = R.es.length) (hm : ∀ x ∈ e :: rest, x ∈ R.es) (hj : ∀ j x, (e :: rest)[j]? = some x → R.es[done.length + j]? = some x)
    (hn : ∀ j x, R.es[j]? = some x → ∃ gl, av = some ⟨gl, 0, none⟩ ∧ w.cell? ⟨gl, j, none⟩ = some (.string ⟨x.nm.toArray⟩) ∧ gl < w.heap.size ∧ ∀ o, ¬ Reads R gl o)
    (hb2 : StepTo R { R with es := done ++ e' :: rest } w0 w2) (hw : ∀ k, k < w.heap.size → (∀ o, ¬ Reads R k o) → w2.heap[k]? = w.heap[k]?) (hsz : w.heap.size ≤ w2.heap.size) (hk : KeepIn R w2 kv' ks') (hi : i' = .int .i64 ((done.length : Int) + 1)) : StartRel R ks0 w0 av kv' i' w2 := by
  refine ⟨done ++ [e'], rest, ks', by rw [hi]; simp, hk, by simpa using hb2, by simpa using hst, by simp at hl ⊢; omega, fun x hx => hm x (List.mem_cons_of_mem _ hx), fun j x hx => ?_, fun j x hx => ?_⟩
  · have := hj (j + 1) x (by simpa using hx)
    rw [List.length_append, List.length_singleton, Nat.add_assoc, Nat.add_comm 1 j]; exact this
  · obtain ⟨gl, h1, h2, h3, h4⟩ := hn j x hx
    exact ⟨gl, h1, (World.cell?_of_block (w := w) (hw gl h3 h4)).trans h2, Nat.lt_of_lt_of_le h3 hsz, h4⟩
def StartPost (R : FsR) (ks : List Int) (w : World) (e : Ending) (w' : World) : Prop := e = .returned (.tuple #[]) ∧ StepTo R (startR R ks) w w'
set_option maxHeartbeats 8000000 in
theorem start_any (R : FsR) (w : World) (H : FsAt w R) (kv : Value) (ks : List Int) (hk : KeepIn R w kv ks) : Calls Tryz.prog 23 #[.pointer (some ⟨R.pb, 0, none⟩), kv] w (StartPost R ks w) := by
  have hl := list_any R w H
  have HH := Lib.hid H
  have HK0 := Lib.hid hk
  have HL := Lib.hid hl
  have hpb := H.pb_lt
  obtain ⟨ka, kc, rfl, hk1, hk2, _⟩ := hk
  have hlen0 : (R.es.length : Int) ≤ 64 := by have := H.many; omega
  clear hl H hk1 hk2
  go_enter Tryz.func23, Tryz.ntmps23
  go_wp2_with (go_at_call 46; (with_reducible refine HL.out.mono ?_); rintro e w0 ⟨v, rfl, ho, hb⟩; have HO := Lib.hid ho; have HB := Lib.hid hb; obtain ⟨av, cv, hv⟩ : ∃ av cv, v = .slice av R.es.length cv := (by rcases ho.2 with ⟨h, h0⟩ | ⟨g, cap, _, h, _⟩; exact ⟨_, _, by rw [h, h0]⟩; exact ⟨_, _, h⟩); subst hv; clear ho hb)
  have HREL : Hid (StartRel R ks w0 av (.slice ka ks.length kc) (.int .i64 ((0 : Nat) : Int)) w0) := Lib.hid (by
    have b0 := StepTo.of_below HH.out HB.out
    refine ⟨[], R.es, ks, rfl, HK0.out.step b0, ⟨b0.fs, Keep.refl _ _, rfl, rfl, fun _ _ _ h => h, fun _ _ _ h => h⟩, rfl, rfl, fun _ h => h, fun j e h => by simpa using h, fun j e hj => ?_⟩
    rcases HO.out.2 with ⟨h, h0⟩ | ⟨g, cap, cur, h, hg, hh, _⟩
    · rw [List.eq_nil_of_length_eq_zero h0] at hj; cases hj
    · injection h with h _ _; subst h
      have := HO.out.cells (g := g) rfl j (encStr e.nm) (by simp [namesE, hj])
      rw [Addr.add_mid, Nat.zero_add] at this
      exact ⟨g, rfl, this, (Array.getElem?_eq_some_iff.1 hh).1, fun o => far_of HH.out hg o⟩)
  go_loopw [1, 5, 6, 7, 13] (fun kv _ _ _ i wr => StartRel R ks w0 av kv i wr) (fun _ _ _ _ i _ => R.es.length - (intOf i).toNat)
  case atStart => exact HREL.out
  case round =>
    obtain ⟨done, rest, ks', rfl, hk', hb', hst', hl', hm', hj', hn'⟩ := hrel
    have HK' := Lib.hid hk'
    have HB' := Lib.hid hb'
    have HST' := Lib.hid hst'
    have HL' := Lib.hid hl'
    have HM' := Lib.hid hm'
    have HJ' := Lib.hid hj'
    have HN' := Lib.hid hn'
    obtain ⟨a', kc', rfl, hkc, hkm, hkx⟩ := hk'
    have q0 : wr.cell? ⟨R.pb, 0, none⟩ = some (.map (some R.mb)) := hb'.fs.mapc
    have hpr : R.pb < wr.heap.size := hb'.fs.pb_lt
    clear HREL
    cases rest with
    | nil =>
      have hd : decide ((done.length : Int) < R.es.length) = false := by simp at hl' ⊢; omega
      have hd' : decide (done.length < R.es.length) = false := by simp at hl' ⊢; omega
      have c2 : wr.cell? ⟨R.pb, 2, none⟩ = some (.bool R.armed) := by rw [hb'.fs.cell]; rfl
      have c3 : wr.cell? ⟨R.pb, 3, none⟩ = some (.int .i64 R.left) := by rw [hb'.fs.cell]; rfl
      have c4 : wr.cell? ⟨R.pb, 4, none⟩ = some (.bool R.down) := by rw [hb'.fs.cell]; rfl
      have f2 : wr.frozen? ⟨R.pb, 2, none⟩ = false := hb'.fs.free 2
      have f3 : wr.frozen? ⟨R.pb, 3, none⟩ = false := hb'.fs.free 3
      have f4 : wr.frozen? ⟨R.pb, 4, none⟩ = false := hb'.fs.free 4
      clear hb' hst' hl' hm' hj' hn' hkc hkm hkx
      go_wp2_with (fail)
      go_end0
      refine ⟨rfl, (StepTo.of_below HH.out HB.out).trans (HB'.out.trans ?_)⟩
      have h1 := HB'.out.fs.set (R' := { R with es := done ++ [], armed := false }) 2 (.bool false) rfl rfl rfl HB'.out.fs.leftOk rfl
      have h2 := h1.set (R' := { R with es := done ++ [], armed := false, left := 0 }) 3 (.int .i64 0) rfl rfl rfl (by simp) rfl
      have h3 := h2.set (R' := { R with es := done ++ [], armed := false, left := 0, down := false }) 4 (.bool false) rfl rfl rfl (by simp) rfl
      have hes : startR R ks = { R with es := done ++ [], armed := false, left := 0, down := false } := by unfold startR; rw [HST'.out]; rfl
      rw [hes]
      exact ⟨h3, ((HB'.out.fs.setKeep 2 (.bool false)).trans (h1.setKeep 3 (.int .i64 0)) fun _ _ _ h => h).trans (h2.setKeep 4 (.bool false)) fun _ _ _ h => h, rfl, rfl, fun _ _ _ h => h, fun _ _ _ h => h⟩
    | cons e rest =>
      obtain ⟨gl, hav, qn, hgl, hfar⟩ := hn' done.length e (by have := hj' 0 e rfl; simpa using this)
      have HFAR := Lib.hid hfar
      subst hav
      have qn' : wr.cell? ⟨gl, 0 + done.length, none⟩ = some (.string ⟨e.nm.toArray⟩) := by rw [Nat.zero_add]; exact qn
      have hmem : e ∈ R.es := hm' e (by simp)
      have hlt : done.length < R.es.length := by simp at hl'; omega
      obtain ⟨hvw, hsf, hle, hnok, hby⟩ := hb'.fs.ents e (by show e ∈ done ++ e :: rest; simp)
      obtain ⟨ae, ce, hve⟩ := hvw.len
      have hlk : (Instr.lookup 96 (.map (some R.mb)) (.string ⟨e.nm.toArray⟩) false).run Tryz.prog wr = .ok (.agg #[.slice ae e.xs.length ce, .int .i64 e.safe]) wr := by
        have h1 := hb'.fs.look1 ⟨e.nm.toArray⟩ (by have := (nmOk_len hnok).2; unfold maxLen; show e.nm.length ≤ _; omega)
        rw [show getE (ByteArray.mk e.nm.toArray).data.toList (done ++ e :: rest) = some e from getE_mid hb'.fs.sorted] at h1
        rw [show fileV (some e) = .agg #[.slice ae e.xs.length ce, .int .i64 e.safe] by show entV e = _; unfold entV; rw [hve]] at h1
        exact h1
      have HCR : Hid (∀ n, n ≤ e.xs.length → ∀ w1, Below wr.heap.size wr w1 → ∃ w2, (Instr.mapUpdate 96 (.map (some R.mb)) (.string ⟨e.nm.toArray⟩) (.agg #[.slice ae n n, .int .i64 n])).run Tryz.prog w1 = .ok () w2 ∧ StepTo R { R with es := done ++ cutEnt e n :: rest } w0 w2 ∧ Keep (fun k _ => k = R.mb) w1 w2) :=
        Lib.hid fun n hn w1 hb1 => cut_round (HH.out.below HB.out) hb' hmem n hn ⟨e.nm.toArray⟩ rfl ae ce hve w1 hb1
      have HVE := Lib.hid hve
      have HSF := Lib.hid hsf
      have HVW := Lib.hid hvw
      have hd : decide ((done.length : Int) < R.es.length) = true := by simp; omega
      by_cases heq : e.xs.length = e.safe
      · have HEQ := Lib.hid heq
        rw [heq] at hlk
        clear hb' hst' hl' hm' hj' hn' hkc hkm hkx hfar heq hmem hvw hsf hle hnok hby hve
        go_wp2_with (fail)
        go_roundw
        case rel =>
          exact StartRel.next e _ _ _ HB'.out (by rw [HST'.out]; show done ++ (if _ then _ else _) = _; rw [if_pos HEQ.out]) HL'.out HM'.out HJ'.out HN'.out (HB'.out.trans (.of_below HB'.out.fs (below1 _ _))) (fun k hk _ => Below.heap_alloc _ _ _ hk) (by simp) (HK'.out.turn (fun k hk _ => Below.heap_alloc _ _ _ hk) (by simp)) rfl
        case measure => simp [intOf]; omega
      · have hq1 : ((e.xs.length : Int) == (e.safe : Int)) = false := beq_eq_false_iff_ne.2 (by omega)
        have HNE := Lib.hid heq
        have hsfi : (e.safe : Int) ≤ e.xs.length := by omega
        have hlei : (e.xs.length : Int) ≤ 16777216 := by omega
        obtain ⟨V, hV⟩ : ∃ V, V = wr.alloc (.cells #[.slice ae e.xs.length ce, .int .i64 e.safe] 107) := ⟨_, rfl⟩
        have hbV : Below wr.heap.size wr V := by rw [hV]; exact below1 _ _
        have hsV : V.heap.size = wr.heap.size + 1 := by rw [hV]; simp
        have hx : V.heap[wr.heap.size]? = some (.cells #[.slice ae e.xs.length ce, .int .i64 e.safe] 107 (0, 0)) := by rw [hV]; exact heap_alloc_new _ _
        have hsx : ∀ w', Below V.heap.size V w' → w'.cell? ⟨R.pb, 0, none⟩ = some (.map (some R.mb)) ∧ w'.cell? ⟨wr.heap.size, 0, none⟩ = some (.slice ae e.xs.length ce) ∧ w'.cell? ⟨wr.heap.size, 1, none⟩ = some (.int .i64 e.safe) := fun w' hb1 =>
          ⟨(hb'.trans (.of_below hb'.fs (hbV.trans (hb1.mono (by omega))))).fs.mapc, cell_at ((hb1.block _ (by omega)).trans hx) rfl, cell_at ((hb1.block _ (by omega)).trans hx) rfl⟩
        have hmbl : R.mb < wr.heap.size := hb'.fs.mb_lt
        have hne := hb'.fs.ne
        have hsy : ∀ w3 w2, Below V.heap.size V w3 → Keep (fun k _ => k = R.mb) w3 w2 → w2.cell? ⟨R.pb, 0, none⟩ = some (.map (some R.mb)) ∧ w2.cell? ⟨wr.heap.size, 0, none⟩ = some (.slice ae e.xs.length ce) ∧ w2.cell? ⟨wr.heap.size, 1, none⟩ = some (.int .i64 e.safe) := fun w3 w2 hb1 hk1 => by
          have h0 := hsx w3 hb1
          have hF3 := (hb'.trans (.of_below hb'.fs (hbV.trans (hb1.mono (by omega))))).fs
          have hbx := (hb1.block _ (by omega)).trans hx
          exact ⟨hk1.cell hF3.own (fun h => hne h) h0.1, hk1.cell hbx (fun h => by omega) h0.2.1, hk1.cell hbx (fun h => by omega) h0.2.2⟩
        have hblk : ∀ w3 w2, Below V.heap.size V w3 → Keep (fun k _ => k = R.mb) w3 w2 → ∀ k, k < wr.heap.size → (∀ o, ¬ Reads R k o) → w2.heap[k]? = wr.heap[k]? := fun w3 w2 hb1 hk1 k hk2 hr => by
          have hsz := hb1.size
          rw [hk1.block k (by omega) fun o h => hr o (.inr (.inl h)), hb1.block k (by omega), hbV.block k hk2]
        have hfir : ∀ n, n ≤ e.xs.length → ∀ w1, Below V.heap.size V w1 → Calls Tryz.prog 47 #[.agg #[.slice ae e.xs.length ce, .int .i64 e.safe], .int .i64 (n : Int)] w1 fun e w3 => e = .returned (.slice ae n n) ∧ Below w1.heap.size w1 w3 := fun n hn w1 hb1 => by
          have h := first_any e.v e.xs e.safe n w1 (hvw.below (hbV.trans (hb1.mono (by omega)))) hn
          rw [hve] at h
          exact h.mono fun e w3 ⟨h1, h2⟩ => ⟨h1, h2⟩
        have hput : ∀ n, n ≤ e.xs.length → ∀ w1, Below V.heap.size V w1 → ∃ w2, (Instr.mapUpdate 96 (.map (some R.mb)) (.string ⟨e.nm.toArray⟩) (.agg #[.slice ae n n, .int .i64 n])).run Tryz.prog w1 = .ok () w2 ∧ StepTo R { R with es := done ++ cutEnt e n :: rest } w0 w2 ∧ Keep (fun k _ => k = R.mb) w1 w2 := fun n hn w1 hb1 => HCR.out n hn w1 (hbV.trans (hb1.mono (by omega)))
        have HSX := Lib.hid hsx
        have HSY := Lib.hid hsy
        have HBK := Lib.hid hblk
        have HFIR := Lib.hid hfir
        have HPUT := Lib.hid hput
        have HSV := Lib.hid hsV
        have HBV := Lib.hid hbV
        have HVV := Lib.hid hV
        cases ks' with
        | nil =>
          clear hb' hst' hl' hm' hj' hn' hkc hkm hkx hfar heq hmem hvw hsf hle hnok hby hve hsx hsy hblk hfir hput hsV hbV hV hx HCR
          go_upto_region 10 with (fail)
          rw [← HVV.out]
          have hS0 := HSX.out V.drew (Below.refl _ V).drew
          go_region_held3 (fun w' => w'.cell? ⟨R.pb, 0, none⟩ = some (.map (some R.mb)) ∧ w'.cell? ⟨wr.heap.size, 0, none⟩ = some (.slice ae e.xs.length ce) ∧ w'.cell? ⟨wr.heap.size, 1, none⟩ = some (.int .i64 e.safe))
            (first | (with_reducible exact hS0) | exact HSX.out _ HB3.out | exact HSY.out _ _ HB3.out HK2.out)
            (first | (go_at_call 47; (with_reducible refine (HFIR.out _ HSF.out _ (Below.refl _ V).drew).mono ?_); rintro e w3 ⟨rfl, hb3⟩; obtain ⟨w2, hr2, hst2, hk2⟩ := HPUT.out _ HSF.out w3 ((Below.refl _ V).drew.trans hb3); have HB3 := Lib.hid ((Below.refl V.heap.size V).drew.trans hb3); have HP2 := Lib.hid hst2; have HK2 := Lib.hid hk2; clear hb3 hst2 hk2))
          go_wp2_with (fail)
          go_roundw
          case rel =>
            have hsz : wr.heap.size ≤ w2.heap.size := Nat.le_trans HBV.out.size (Nat.le_trans HB3.out.size HK2.out.size)
            exact StartRel.next (cutEnt e e.safe) _ _ _ HB'.out (by rw [HST'.out]; show done ++ (if _ then _ else _) = _; rw [if_neg HNE.out]) HL'.out HM'.out HJ'.out HN'.out HP2.out (HBK.out _ _ HB3.out HK2.out) hsz (HK'.out.turn (HBK.out _ _ HB3.out HK2.out) hsz) rfl
          case measure => simp [intOf]; omega
        | cons k t =>
          obtain ⟨ab, ao, rfl, hkr, hkl, hkcell⟩ : ∃ ab ao, a' = some ⟨ab, ao, none⟩ ∧ (∀ o, ¬ Reads R ab o) ∧ ab < wr.heap.size ∧ wr.cell? ⟨ab, ao, none⟩ = some (.int .i64 k) := by
            rcases hkx with h | ⟨ab, ao, h1, h2, h3, h4⟩
            · cases h
            · exact ⟨ab, ao, h1, h2, h3, by have := h4 0 k rfl; rwa [Nat.add_zero] at this⟩
          obtain ⟨N, hN⟩ : ∃ N, N = keptN e k := ⟨_, rfl⟩
          obtain ⟨r, hr⟩ : ∃ r, r = min (max k 0) ((e.xs.length : Int) - e.safe) := ⟨_, rfl⟩
          have hr0 : 0 ≤ r := by rw [hr]; omega
          have hr1 : r ≤ (e.xs.length : Int) - e.safe := by rw [hr]; omega
          have hNr : ((N : Nat) : Int) = e.safe + r := by rw [hN]; unfold keptN; rw [← hr]; omega
          have hNle : N ≤ e.xs.length := by omega
          have hr2 : r ≤ 16777216 := by omega
          have hsf0 : (e.safe : Int) ≤ 16777216 := by omega
          have hw1 : IntKind.i64.wrap ((e.xs.length : Int) - e.safe) = (e.xs.length : Int) - e.safe := IntWalk.i64_in _ (by omega)
          have hw2 : IntKind.i64.wrap ((e.safe : Int) + r) = e.safe + r := IntWalk.i64_in _ (by omega)
          have hlenk : (0 : Int) < ((t.length : Nat) : Int) + 1 := by omega
          have hk1 : ∀ w', Below V.heap.size V w' → w'.cell? ⟨ab, ao, none⟩ = some (.int .i64 k) := fun w' hb1 => by
            rw [World.cell?_of_block (w := wr) (by rw [hb1.block ab (by omega)]; exact hbV.block ab hkl)]; exact hkcell
          have hk2 : ∀ w3 w2, Below V.heap.size V w3 → Keep (fun k _ => k = R.mb) w3 w2 → w2.cell? ⟨ab, ao, none⟩ = some (.int .i64 k) := fun w3 w2 hb1 hk1 => by
            rw [World.cell?_of_block (w := wr) (hblk w3 w2 hb1 hk1 ab hkl hkr)]; exact hkcell
          have hfir2 : ∀ w1, Below V.heap.size V w1 → Calls Tryz.prog 47 #[.agg #[.slice ae e.xs.length ce, .int .i64 e.safe], .int .i64 ((e.safe : Int) + r)] w1 fun e w3 => e = .returned (.slice ae N N) ∧ Below w1.heap.size w1 w3 := fun w1 hb1 => by rw [← hNr]; exact hfir N hNle w1 hb1
          have hput2 : ∀ w1, Below V.heap.size V w1 → ∃ w2, (Instr.mapUpdate 96 (.map (some R.mb)) (.string ⟨e.nm.toArray⟩) (.agg #[.slice ae N N, .int .i64 ((e.safe : Int) + r)])).run Tryz.prog w1 = .ok () w2 ∧ StepTo R { R with es := done ++ cutEnt e N :: rest } w0 w2 ∧ Keep (fun k _ => k = R.mb) w1 w2 := fun w1 hb1 => by rw [← hNr]; exact hput N hNle w1 hb1
          have hsl := fun w => sliceKlo (some ⟨ab, ao, none⟩) (t.length + 1) kc' 1 (by omega) w
          have HK1 := Lib.hid hk1
          have HK2' := Lib.hid hk2
          have HF2 := Lib.hid hfir2
          have HPT := Lib.hid hput2
          have HN := Lib.hid hN
          have HR := Lib.hid hr
          have HSL := Lib.hid hsl
          have hxl0 : (0 : Int) ≤ e.xs.length := by omega
          clear hb' hst' hl' hm' hj' hn' hkc hkm hkx hfar heq hmem hvw hsf hle hnok hby hve hsx hsy hblk hfir hput hsV hbV hV hx HCR hk1 hk2 hfir2 hput2 hN hr hNr hNle hkr hkl hkcell
          go_upto_region 8 with (fail)
          rw [← HVV.out]
          have hS0 : V.drew.cell? ⟨ab, ao, none⟩ = some (.int .i64 k) ∧ V.drew.cell? ⟨wr.heap.size, 0, none⟩ = some (.slice ae e.xs.length ce) ∧ V.drew.cell? ⟨wr.heap.size, 1, none⟩ = some (.int .i64 e.safe) := ⟨HK1.out V.drew (Below.refl _ V).drew, (HSX.out V.drew (Below.refl _ V).drew).2⟩
          go_region_held3 (fun w' => w'.cell? ⟨ab, ao, none⟩ = some (.int .i64 k) ∧ w'.cell? ⟨wr.heap.size, 0, none⟩ = some (.slice ae e.xs.length ce) ∧ w'.cell? ⟨wr.heap.size, 1, none⟩ = some (.int .i64 e.safe))
            (first | (with_reducible exact hS0))
            (first | (refine step_max2 (by rfl) (.tmp 37) (.const (.int .i64 0)) 3 rfl k 0 rfl rfl (max k 0) rfl ?_) | (refine step_min2 (by rfl) (.tmp 38) (.tmp 44) 3 rfl (max k 0) ((e.xs.length : Int) - e.safe) rfl rfl r HR.out.symm ?_))
          clear hS0
          go_upto_region 10 with (fail)
          generalize hak : (if kc' = 1 then some (⟨ab, ao, none⟩ : Addr) else some ⟨ab, ao + 1, none⟩) = aK
          have HAK := Lib.hid hak
          clear hak
          have hS0 := HSX.out V.drew.drew (Below.refl _ V).drew.drew
          go_region_held3 (fun w' => w'.cell? ⟨R.pb, 0, none⟩ = some (.map (some R.mb)) ∧ w'.cell? ⟨wr.heap.size, 0, none⟩ = some (.slice ae e.xs.length ce) ∧ w'.cell? ⟨wr.heap.size, 1, none⟩ = some (.int .i64 e.safe))
            (first | (with_reducible exact hS0) | exact HSX.out _ HB3.out | exact HSY.out _ _ HB3.out HK2.out)
            (first | (go_at_call 47; (with_reducible refine (HF2.out _ (Below.refl _ V).drew.drew).mono ?_); rintro e w3 ⟨rfl, hb3⟩; obtain ⟨w2, hr2', hst2, hk2⟩ := HPT.out w3 ((Below.refl _ V).drew.drew.trans hb3); have HB3 := Lib.hid ((Below.refl V.heap.size V).drew.drew.trans hb3); have HP2 := Lib.hid hst2; have HK2 := Lib.hid hk2; clear hb3 hst2 hk2))
          go_wp2_with (fail)
          go_roundw
          case rel =>
            have hsz : wr.heap.size ≤ w2.heap.size := Nat.le_trans HBV.out.size (Nat.le_trans HB3.out.size HK2.out.size)
            refine StartRel.next (cutEnt e N) _ _ _ HB'.out (by rw [HST'.out]; show done ++ (if _ then _ else _) = _; rw [if_neg HNE.out, HN.out]) HL'.out HM'.out HJ'.out HN'.out HP2.out (HBK.out _ _ HB3.out HK2.out) hsz ?_ rfl
            have hkt := HK'.out.tail.turn (HBK.out _ _ HB3.out HK2.out) hsz
            rw [← HAK.out]
            simpa [cutA, Addr.add_mid] using hkt
          case measure => simp [intOf]; omega
end Go.Proofs.YtilpohdidekenaaGreatDoor
namespace Go.Proofs.YtilpohdidekenaaGreatDoor
set_option linter.unusedVariables false
set_option linter.unusedSimpArgs false
open Go.RowKit Go.Maps
set_option maxRecDepth 100000
theorem step_delete {ops : Array Oper} {o : Oper} {a : Act} {w : World} {K : Act → World → Prop} {Q : Exit → Act → World → Prop} {E : Prop} (hw : Region.wanted o (yielded ops a.tmps) = true) (m x : Operand)
    (ho : o.op = .call { callee := .builtin .delete, args := #[m, x], argTypes := #[96, 9] }) (v y : Value) (hs : a.eval m = v) (hx : a.eval x = y) (w' : World) (hr : (Builtin.delete_ #[96, 9] o.type #[v, y]).run Tryz.prog w = .ok (.tuple #[]) w') (h : K (a.put o.dst (.tuple #[])) w') :
    if Region.wanted o (yielded ops a.tmps) = true then Oper.wp Tryz.prog o a w K Q else E := by
  rw [if_pos hw]
  unfold Oper.wp execOp
  simp only [ho, resolve, invoke, builtin, Sem.run_bind, Sem.run_pure, Result.andThen_ok, List.map_toArray, List.map_cons, List.map_nil, hs, hx, hr]
  exact h
set_option maxHeartbeats 4000000 in
theorem cutC_any (R : FsR) (w : World) (H : FsAt w R) (s : ByteArray) (hs : s.size ≤ maxLen) (en : Ent) (hg : getE s.data.toList R.es = some en) (a : Option Addr) (cap : Nat) (hv : en.v = .slice a en.xs.length cap) (k : Nat) (hk : k ≤ en.xs.length) (gx gk gf gn : Nat) (T1 T2 T3 : TypeId)
    (hx : w.heap[gx]? = some (.cells #[.slice a en.xs.length cap, .int .i64 en.safe] 107 (0, 0))) (hkc : w.heap[gk]? = some (.cells #[.int .i64 (k : Int)] T1 (0, 0))) (hf : w.heap[gf]? = some (.cells #[.pointer (some ⟨R.pb, 0, none⟩)] T2 (0, 0))) (hn : w.heap[gn]? = some (.cells #[.string s] T3 (0, 0)))
    (hfar : ∀ k, k = gx ∨ k = gk ∨ k = gf ∨ k = gn → ∀ o, ¬ Reads R k o) :
    Calls Tryz.prog 123 #[.pointer (some ⟨gx, 0, none⟩), .pointer (some ⟨gk, 0, none⟩), .pointer (some ⟨gf, 0, none⟩), .pointer (some ⟨gn, 0, none⟩)] w fun e w' => e = .returned (.tuple #[]) ∧ StepTo R { R with es := putE ⟨s.data.toList, firstV en.v k, en.xs.take k, k⟩ R.es } w w' := by
  obtain ⟨hmem, hnm⟩ := getE_some hg
  obtain ⟨hvw, hsf, hle, hok, hby⟩ := H.ents en hmem
  have hd : Below w.heap.size w w.drew := (Below.refl _ w).drew
  have hput : ∀ w3, Below w.drew.heap.size w.drew w3 → ∃ w2, (Instr.mapUpdate 96 (.map (some R.mb)) (.string s) (.agg #[.slice a k k, .int .i64 (k : Int)])).run Tryz.prog w3 = .ok () w2 ∧ StepTo R { R with es := putE ⟨s.data.toList, firstV en.v k, en.xs.take k, k⟩ R.es } w w2 := fun w3 hb => by
    have hb3 : Below w.heap.size w w3 := hd.trans hb
    have hb : StepTo R R w w3 := .of_below H hb3
    have hl : (en.xs.take k).length = k := by rw [List.length_take]; omega
    obtain ⟨w2, hr, hst⟩ := put_from hb s hs ⟨s.data.toList, firstV en.v k, en.xs.take k, k⟩ rfl ⟨first_view (hvw.below hb3) k hk, by rw [hl]; exact Nat.le_refl _, by rw [hl]; omega, by rw [← hnm]; exact hok, fun x hx => hby x (List.mem_of_mem_take hx)⟩
      (fun x hxm hne k' o => ⟨fun hsp => (first_spare hsp).elim, fun hsp hu => (pair_mem H.apart hmem hxm (by rw [hnm]; exact hne.symm) k' o).2 hsp (first_used hvw hk hu)⟩) (by rw [length_putE_some H.sorted hg]; exact H.many)
      (fun k' o _ hu => .inr (.inr ⟨en, hmem, first_used hvw hk hu⟩)) (fun k' o _ hu => (first_spare hu).elim)
    unfold entV at hr
    simp only at hr
    rw [hv] at hr
    rw [hv]
    rw [hv] at hst
    exact ⟨w2, hr, hst⟩
  have hfirst := first_any en.v en.xs en.safe k w.drew (hvw.below hd) hk
  rw [hv] at hfirst
  have hfirst' : Calls Tryz.prog 47 #[.agg #[.slice a en.xs.length cap, .int .i64 en.safe], .int .i64 k] w.drew fun e w3 => e = .returned (.slice a k k) ∧ Below w.drew.heap.size w.drew w3 := hfirst.mono fun e w3 ⟨h1, h2⟩ => ⟨h1, h2⟩
  have hSS : ∀ w' R', StepTo R R' w w' → w'.cell? ⟨gf, 0, none⟩ = some (.pointer (some ⟨R.pb, 0, none⟩)) ∧ w'.cell? ⟨R.pb, 0, none⟩ = some (.map (some R.mb)) ∧ w'.cell? ⟨gn, 0, none⟩ = some (.string s) ∧ w'.cell? ⟨gx, 0, none⟩ = some (.slice a en.xs.length cap) ∧ w'.cell? ⟨gx, 1, none⟩ = some (.int .i64 en.safe) ∧ w'.cell? ⟨gk, 0, none⟩ = some (.int .i64 (k : Int)) := fun w' R' h =>
    ⟨h.cell hf rfl (hfar _ (by simp)), by have := h.fs.mapc; rwa [h.pb, h.mb] at this, h.cell hn rfl (hfar _ (by simp)), h.cell hx rfl (hfar _ (by simp)), h.cell hx rfl (hfar _ (by simp)), h.cell hkc rfl (hfar _ (by simp))⟩
  have hS1 := hSS w.drew R (.of_below H hd)
  have HSB : Hid (∀ w3, Below w.drew.heap.size w.drew w3 → w3.cell? ⟨gf, 0, none⟩ = some (.pointer (some ⟨R.pb, 0, none⟩)) ∧ w3.cell? ⟨R.pb, 0, none⟩ = some (.map (some R.mb)) ∧ w3.cell? ⟨gn, 0, none⟩ = some (.string s) ∧ w3.cell? ⟨gx, 0, none⟩ = some (.slice a en.xs.length cap) ∧ w3.cell? ⟨gx, 1, none⟩ = some (.int .i64 en.safe) ∧ w3.cell? ⟨gk, 0, none⟩ = some (.int .i64 (k : Int))) := Lib.hid fun w3 hb => hSS w3 R (.of_below H (hd.trans hb))
  have HSS := Lib.hid hSS
  have HPUT := Lib.hid hput
  have HFIRST := Lib.hid hfirst'
  have HS1 := Lib.hid hS1
  have hHx : True := trivial
  clear hS1 hSS hput hfirst hfirst' hfar hn hf hx hkc hvw hsf hle hok hby hmem hnm hg hv hs H hd hk
  generalize en.xs.length = n at *
  generalize en.safe = sf at *
  go_enter Tryz.func123, Tryz.ntmps123
  go_region_held3 (fun w => w.cell? ⟨gf, 0, none⟩ = some (.pointer (some ⟨R.pb, 0, none⟩)) ∧ w.cell? ⟨R.pb, 0, none⟩ = some (.map (some R.mb)) ∧ w.cell? ⟨gn, 0, none⟩ = some (.string s) ∧ w.cell? ⟨gx, 0, none⟩ = some (.slice a n cap) ∧ w.cell? ⟨gx, 1, none⟩ = some (.int .i64 sf) ∧ w.cell? ⟨gk, 0, none⟩ = some (.int .i64 (k : Int)))
    (first | (with_reducible exact HS1.out) | exact HSB.out _ HB3.out | exact HSS.out _ _ HP2.out)
    (first | (go_at_call 47; (with_reducible refine HFIRST.out.mono ?_); rintro e w3 ⟨rfl, hb3⟩; obtain ⟨w2, hr2, hst2⟩ := HPUT.out w3 hb3; have HB3 := Lib.hid hb3; have HP2 := Lib.hid hst2; clear hb3 hst2))
  go_wp2_with (fail)
  go_end0
  exact ⟨rfl, HP2.out⟩
def cutE (R : FsR) (s : ByteArray) (n : Int) : Option Nat :=
  match findR R s with
  | (some k, _) => some k
  | (none, oe) => if n < 0 ∨ ((fileXs oe).length : Int) < n then some 1 else none
def cutEs (R : FsR) (s : ByteArray) (n : Int) : List Ent := putE ⟨s.data.toList, firstV (match getE s.data.toList R.es with | some e => e.v | none => .slice none 0 0) n.toNat, (fileXs (getE s.data.toList R.es)).take n.toNat, n.toNat⟩ R.es
/-- the boxes of f, a name and a third argument -/
theorem box3 (w : World) (R : FsR) (s : ByteArray) (v : Value) (T : TypeId) : (((w.alloc (.cells #[.pointer (some ⟨R.pb, 0, none⟩)] 51)).alloc (.cells #[.string s] 9)).alloc (.cells #[v] T)).heap[w.heap.size]? = some (.cells #[.pointer (some ⟨R.pb, 0, none⟩)] 51 (0, 0)) ∧ (((w.alloc (.cells #[.pointer (some ⟨R.pb, 0, none⟩)] 51)).alloc (.cells #[.string s] 9)).alloc (.cells #[v] T)).heap[w.heap.size + 1]? = some (.cells #[.string s] 9 (0, 0)) ∧ (((w.alloc (.cells #[.pointer (some ⟨R.pb, 0, none⟩)] 51)).alloc (.cells #[.string s] 9)).alloc (.cells #[v] T)).heap[w.heap.size + 1 + 1]? = some (.cells #[v] T (0, 0)) := by
  have h := box2 w R s
  have h3 := heap_alloc_new ((w.alloc (.cells #[.pointer (some ⟨R.pb, 0, none⟩)] 51)).alloc (.cells #[.string s] 9)) (.cells #[v] T)
  simp only [size_alloc] at h3
  exact ⟨(Below.heap_alloc _ _ _ (by simp; omega)).trans h.1, (Below.heap_alloc _ _ _ (by simp)).trans h.2, h3⟩
set_option maxHeartbeats 4000000 in
theorem cut_any (R : FsR) (w : World) (H : FsAt w R) (s : ByteArray) (hs : s.size ≤ maxLen) (n : Int) (hst : R.steps < 4611686018427387904) :
    Calls Tryz.prog 81 #[.pointer (some ⟨R.pb, 0, none⟩), .string s, .int .i64 n] w (StPost R (cutE R s n) (cutEs R s n) w) := by
  obtain ⟨W, hW⟩ : ∃ W, W = ((w.alloc (.cells #[.pointer (some ⟨R.pb, 0, none⟩)] 51)).alloc (.cells #[.string s] 9)).alloc (.cells #[.int .i64 n] 3) := ⟨_, rfl⟩
  have hbW : Below w.heap.size w W := by rw [hW]; exact below3 _ _ _ _
  have hsW : W.heap.size = w.heap.size + 1 + 1 + 1 := by rw [hW]; simp
  have hbox := box3 w R s (.int .i64 n) 3
  rw [← hW] at hbox
  have hf := find_any R W (H.below hbW) s hs
  obtain ⟨er, oe, hr⟩ : ∃ er oe, findR R s = (er, oe) := ⟨_, _, rfl⟩
  rw [hr] at hf
  have q0 : W.cell? ⟨w.heap.size, 0, none⟩ = some (.pointer (some ⟨R.pb, 0, none⟩)) := cell_at hbox.1 rfl
  have q1 : W.cell? ⟨w.heap.size + 1, 0, none⟩ = some (.string s) := cell_at hbox.2.1 rfl
  have HBW := Lib.hid hbW
  have HSW := Lib.hid hsW
  have HBOX := Lib.hid hbox
  have HH := Lib.hid H
  cases oe with
  | none =>
    obtain ⟨k, rfl⟩ := findR_none hr
    have HE : Hid (cutE R s n = some k) := Lib.hid (by unfold cutE; rw [hr])
    have hf' : Calls Tryz.prog 118 #[.pointer (some ⟨R.pb, 0, none⟩), .string s] W fun e w' => e = .returned (.tuple #[.agg #[.slice none 0 0, .int .i64 0], .iface 87 (.int .i64 k)]) ∧ Below W.heap.size W w' := hf.mono fun e w' ⟨he, hb⟩ => ⟨he, hb⟩
    have HF := Lib.hid hf'
    have HWW := Lib.hid hW
    clear hf hf' H hs hr hW hbW hsW hbox hst
    go_enter Tryz.func81, Tryz.ntmps81
    go_upto_region 1 with (fail)
    rw [← HWW.out]
    go_wp2_with (go_at_call 118; (with_reducible refine HF.out.mono ?_); rintro e w1 ⟨rfl, hb⟩; have HB := Lib.hid hb; clear hb)
    go_ret
    rw [HE.out]
    exact ⟨rfl, Below.alloc0 (HBW.out.trans (HB.out.mono (by have := HSW.out; omega))) _⟩
  | some en =>
    obtain ⟨rfl, hm⟩ := findR_mem hr
    obtain ⟨a, cap, hv⟩ := (H.ents en (getE_some hm).1).1.len
    have hent : entV en = .agg #[.slice a en.xs.length cap, .int .i64 en.safe] := by unfold entV; rw [hv]
    have hf' : Calls Tryz.prog 118 #[.pointer (some ⟨R.pb, 0, none⟩), .string s] W fun e w' => e = .returned (.tuple #[.agg #[.slice a en.xs.length cap, .int .i64 en.safe], .nilIface]) ∧ Below W.heap.size W w' := by
      refine hf.mono fun e w' ⟨he, hb⟩ => ⟨?_, hb⟩
      rw [he]; show Ending.returned (.tuple #[entV en, Value.nilIface]) = _; rw [hent]
    have HF := Lib.hid hf'
    have HWW := Lib.hid hW
    by_cases hbad : n < 0 ∨ ((en.xs.length : Nat) : Int) < n
    · have HE : Hid (cutE R s n = some 1) := Lib.hid (by unfold cutE; rw [hr]; exact if_pos hbad)
      by_cases hneg : n < 0
      · have hd : decide (n < 0) = true := by simpa using hneg
        generalize en.xs.length = m at *
        generalize en.safe = sf at *
        clear hf hf' H hs hr hW hbW hsW hbox hst hm hv hent hbad hneg
        go_enter Tryz.func81, Tryz.ntmps81
        go_upto_region 1 with (fail)
        rw [← HWW.out]
        go_wp2_with (go_at_call 118; (with_reducible refine HF.out.mono ?_); rintro e w1 ⟨rfl, hb⟩; have hsz : w.heap.size + 1 + 1 < w1.heap.size := (by have h1 := hb.size; have h2 := HSW.out; omega); have q3 : w1.cell? ⟨w.heap.size + 1 + 1, 0, none⟩ = some (.int .i64 n) := below_cell hb HBOX.out.2.2 rfl; have HB := Lib.hid hb; clear hb)
        go_ret
        rw [HE.out]
        exact ⟨rfl, Below.alloc0 (HBW.out.trans (HB.out.mono (by have := HSW.out; omega))) _⟩
      · have hd : decide (n < 0) = false := by simpa using hneg
        have hd2 : decide (((en.xs.length : Nat) : Int) < n) = true := by simp; omega
        generalize en.xs.length = m at *
        generalize en.safe = sf at *
        clear hf hf' H hs hr hW hbW hsW hbox hst hm hv hent hbad hneg
        go_enter Tryz.func81, Tryz.ntmps81
        go_upto_region 1 with (fail)
        rw [← HWW.out]
        go_wp2_with (go_at_call 118; (with_reducible refine HF.out.mono ?_); rintro e w1 ⟨rfl, hb⟩; have hsz : w.heap.size + 1 + 1 < w1.heap.size := (by have h1 := hb.size; have h2 := HSW.out; omega); have q3 : w1.cell? ⟨w.heap.size + 1 + 1, 0, none⟩ = some (.int .i64 n) := below_cell hb HBOX.out.2.2 rfl; have HB := Lib.hid hb; clear hb)
        go_ret
        rw [HE.out]
        exact ⟨rfl, Below.alloc0 (HBW.out.trans (HB.out.mono (by have := HSW.out; omega))) _⟩
    · obtain ⟨k, rfl⟩ : ∃ k : Nat, n = (k : Int) := ⟨n.toNat, (Int.toNat_of_nonneg (by omega)).symm⟩
      have hk : k ≤ en.xs.length := by omega
      have HE : Hid (cutE R s (k : Int) = none ∧ cutEs R s (k : Int) = putE ⟨s.data.toList, firstV en.v k, en.xs.take k, k⟩ R.es) := Lib.hid ⟨by unfold cutE; rw [hr]; exact if_neg hbad, by unfold cutEs; rw [hm]; rfl⟩
      have hd : decide ((k : Int) < 0) = false := by simp
      have hd2 : decide (((en.xs.length : Nat) : Int) < (k : Int)) = false := by simp; omega
      have hd3 : decide (en.xs.length < k) = false := by simp; omega
      have hcl : ∀ w1, Below W.heap.size W w1 → Calls Tryz.prog 122 #[.pointer (some ⟨R.pb, 0, none⟩), .func (.func 123) #[] #[.pointer (some ⟨w1.heap.size, 0, none⟩), .pointer (some ⟨w.heap.size + 1 + 1, 0, none⟩), .pointer (some ⟨w.heap.size, 0, none⟩), .pointer (some ⟨w.heap.size + 1, 0, none⟩)]] (w1.alloc (.cells #[.slice a en.xs.length cap, .int .i64 en.safe] 107)) (StPost R none (putE ⟨s.data.toList, firstV en.v k, en.xs.take k, k⟩ R.es) (w1.alloc (.cells #[.slice a en.xs.length cap, .int .i64 en.safe] 107))) := fun w1 hb => by
        have hb1 : Below w.heap.size w w1 := hbW.trans (hb.mono (by omega))
        have hbV : Below w.heap.size w (w1.alloc (.cells #[.slice a en.xs.length cap, .int .i64 en.safe] 107)) := Below.alloc0 hb1 _
        have hsz := hb.size
        have b1 : (w1.alloc (.cells #[.slice a en.xs.length cap, .int .i64 en.safe] 107)).heap[w.heap.size]? = some (.cells #[.pointer (some ⟨R.pb, 0, none⟩)] 51 (0, 0)) := (Below.heap_alloc _ _ _ (by omega)).trans ((hb.block _ (by omega)).trans hbox.1)
        have b2 : (w1.alloc (.cells #[.slice a en.xs.length cap, .int .i64 en.safe] 107)).heap[w.heap.size + 1]? = some (.cells #[.string s] 9 (0, 0)) := (Below.heap_alloc _ _ _ (by omega)).trans ((hb.block _ (by omega)).trans hbox.2.1)
        have b3 : (w1.alloc (.cells #[.slice a en.xs.length cap, .int .i64 en.safe] 107)).heap[w.heap.size + 1 + 1]? = some (.cells #[.int .i64 (k : Int)] 3 (0, 0)) := (Below.heap_alloc _ _ _ (by omega)).trans ((hb.block _ (by omega)).trans hbox.2.2)
        refine step_st R _ (H.below hbV) hst 123 _ (enters_of Tryz.func123 (by kernel_rfl) rfl) _ fun V1 hf1 hk1 => ?_
        exact cutC_any (stepR R) V1 hf1 s hs en hm a cap hv k hk _ _ _ _ _ _ _ (keep_blk H hk1 (by omega) (heap_alloc_new w1 _)) (keep_blk H hk1 (by omega) b3) (keep_blk H hk1 (Nat.le_refl _) b1) (keep_blk H hk1 (by omega) b2)
          (fun k hk o hr => far_of H (by rcases hk with rfl | rfl | rfl | rfl <;> omega) o hr)
      have HCL := Lib.hid hcl
      clear hf hf' H hs hr hW hbW hsW hbox hst hm hv hent hcl hbad hk
      generalize en.xs.length = m at *
      generalize en.safe = sf at *
      go_enter Tryz.func81, Tryz.ntmps81
      go_upto_region 1 with (fail)
      rw [← HWW.out]
      go_wp2_with (first | (go_at_call 118; (with_reducible refine HF.out.mono ?_); rintro e w1 ⟨rfl, hb⟩; have hsz : w.heap.size + 1 + 1 < w1.heap.size := (by have h1 := hb.size; have h2 := HSW.out; omega); have hsz0 : w.heap.size < w1.heap.size := (by omega); have hsz1 : w.heap.size + 1 < w1.heap.size := (by omega); have q2 : w1.cell? ⟨w.heap.size, 0, none⟩ = some (.pointer (some ⟨R.pb, 0, none⟩)) := below_cell hb HBOX.out.1 rfl; have q3 : w1.cell? ⟨w.heap.size + 1 + 1, 0, none⟩ = some (.int .i64 (k : Int)) := below_cell hb HBOX.out.2.2 rfl; have HB := Lib.hid hb; clear hb) | (go_at_call 122; (with_reducible refine (HCL.out _ HB.out).mono ?_); rintro e w2 ⟨rfl, hp⟩; have HP := Lib.hid hp; clear hp))
      go_ret
      rw [HE.out.1, HE.out.2]
      exact ⟨rfl, (StepTo.of_below HH.out (Below.alloc0 (HBW.out.trans (HB.out.mono (by have := HSW.out; omega))) _)).trans HP.out⟩
end Go.Proofs.YtilpohdidekenaaGreatDoor

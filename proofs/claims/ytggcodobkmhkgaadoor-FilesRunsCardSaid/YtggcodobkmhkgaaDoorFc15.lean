/- Part 15 of the proof. -/
import Derived.Test.YtggcodobkmhkgaaDoorFc14
namespace Go.Proofs.YtggcodobkmhkgaaDoor
set_option linter.unusedVariables false
set_option linter.unusedSimpArgs false
open Go.RowKit Go.Maps Go.Proofs
set_option maxRecDepth 100000
def startR (R : FsR) (ks : List Int) : FsR := { R with es := startEs R.es ks, armed := false, left := 0, down := false }
theorem step_max2 {P : Program} {ops : Array Oper} {o : Oper} {a : Act} {w : World} {K : Act → World → Prop} {Q : Exit → Act → World → Prop} {E : Prop} (hw : Region.wanted o (yielded ops a.tmps) = true) (x y : Operand) (t : TypeId)
    (ho : o.op = .call { callee := .builtin .max, args := #[x, y], argTypes := #[t, t] }) (p q : Int) (hx : a.eval x = .int .i64 p) (hy : a.eval y = .int .i64 q) (r : Int) (hr : max p q = r) (h : K (a.put o.dst (.int .i64 r)) w) :
    if Region.wanted o (yielded ops a.tmps) = true then Oper.wp P o a w K Q else E := by
  rw [if_pos hw]
  have hrun := run_max_int2 (P := P) (w := w) #[t, t] o.type .i64 .i64 p q
  rw [show (if q > p then q else p) = r by rw [← hr]; split <;> omega] at hrun
  unfold Oper.wp
  simp only [execOp, ho, resolve, invoke, builtin, Sem.run_bind, Sem.run_pure, Result.andThen_ok, List.map_toArray, List.map_cons, List.map_nil, hx, hy, hrun]
  exact h
theorem step_min2 {P : Program} {ops : Array Oper} {o : Oper} {a : Act} {w : World} {K : Act → World → Prop} {Q : Exit → Act → World → Prop} {E : Prop} (hw : Region.wanted o (yielded ops a.tmps) = true) (x y : Operand) (t : TypeId)
    (ho : o.op = .call { callee := .builtin .min, args := #[x, y], argTypes := #[t, t] }) (p q : Int) (hx : a.eval x = .int .i64 p) (hy : a.eval y = .int .i64 q) (r : Int) (hr : min p q = r) (h : K (a.put o.dst (.int .i64 r)) w) :
    if Region.wanted o (yielded ops a.tmps) = true then Oper.wp P o a w K Q else E := by
  rw [if_pos hw]
  have hrun := run_min_int2 (P := P) (w := w) #[t, t] o.type .i64 .i64 p q
  rw [show (if q < p then q else p) = r by rw [← hr]; split <;> omega] at hrun
  unfold Oper.wp
  simp only [execOp, ho, resolve, invoke, builtin, Sem.run_bind, Sem.run_pure, Result.andThen_ok, List.map_toArray, List.map_cons, List.map_nil, hx, hy, hrun]
  exact h
/-- a round that cuts a file -/
theorem cut_round {R : FsR} {w0 w : World} {done rest : List Ent} {e : Ent} (H0 : FsAt w0 R) (b : StepTo R { R with es := done ++ e :: rest } w0 w) (hmem : e ∈ R.es) (n : Nat) (hn : n ≤ e.xs.length) (s : ByteArray) (hs : s.data.toList = e.nm) (a : Option Addr) (cap : Nat) (hv : e.v = .slice a e.xs.length cap) (w1 : World) (hb : Below w.heap.size w w1) :
    ∃ w2, (Instr.mapUpdate 96 (.map (some R.mb)) (.string s) (.agg #[.slice a n n, .int .i64 n])).run Tryd.prog w1 = .ok () w2 ∧ StepTo R { R with es := done ++ cutEnt e n :: rest } w0 w2 ∧ Keep (fun k _ => k = R.mb) w1 w2 := by
  have b1 : StepTo R { R with es := done ++ e :: rest } w0 w1 := b.trans (.of_below b.fs hb)
  have hok := b1.fs.ents e (by show e ∈ done ++ e :: rest; simp)
  have hl : (e.xs.take n).length = n := by rw [List.length_take]; omega
  obtain ⟨w2, hr, hst, hkm⟩ := put_from' b1 s (by have h64 := (nmOk_len hok.2.2.2.1).2; rw [← hs] at h64; unfold maxLen; show s.data.toList.length ≤ _; omega) (cutEnt e n) (by rw [hs]; rfl)
    ⟨first_view hok.1 n hn, by show n ≤ (e.xs.take n).length; omega, by show (e.xs.take n).length ≤ _; rw [hl]; have := hok.2.2.1; omega, hok.2.2.2.1, fun x hx => hok.2.2.2.2 x (List.mem_of_mem_take hx)⟩
    (fun x hxm hne k o => ⟨fun hsp => (first_spare hsp).elim, fun hsp hu => (pair_mem b1.fs.apart (show e ∈ done ++ e :: rest by simp) hxm hne.symm k o).2 hsp (first_used hok.1 hn hu)⟩)
    (by show (putE (cutEnt e n) (done ++ e :: rest)).length ≤ 64; rw [length_putE_some b1.fs.sorted (show getE (cutEnt e n).nm (done ++ e :: rest) = some e from getE_mid b1.fs.sorted)]; exact b1.fs.many)
    (fun k o _ hu => .inr (.inr ⟨e, hmem, first_used (H0.ents e hmem).1 hn hu⟩)) (fun k o _ hu => (first_spare hu).elim)
  have hput : putE (cutEnt e n) (done ++ e :: rest) = done ++ cutEnt e n :: rest := putE_mid b1.fs.sorted rfl
  rw [show ({ R with es := done ++ e :: rest } : FsR).es = done ++ e :: rest from rfl, hput] at hst
  unfold entV at hr
  simp only [cutEnt] at hr
  rw [hv] at hr
  exact ⟨w2, hr, hst, hkm⟩
def StartRel (R : FsR) (ks0 : List Int) (w0 : World) (av : Option Addr) (kv i : Value) (w : World) : Prop :=
  ∃ (done rest : List Ent) (ks : List Int), i = .int .i64 (done.length : Int) ∧ KeepIn R w kv ks ∧ StepTo R { R with es := done ++ rest } w0 w ∧ startEs R.es ks0 = done ++ startEs rest ks ∧ (done ++ rest).length = R.es.length ∧ (∀ e ∈ rest, e ∈ R.es) ∧ (∀ j e, rest[j]? = some e → R.es[done.length + j]? = some e) ∧
    (∀ j e, R.es[j]? = some e → ∃ gl, av = some ⟨gl, 0, none⟩ ∧ w.cell? ⟨gl, j, none⟩ = some (.string ⟨e.nm.toArray⟩) ∧ gl < w.heap.size ∧ ∀ o, ¬ Reads R gl o)
theorem StartRel.next {R : FsR} {ks0 : List Int} {w0 w : World} {av : Option Addr} {done rest : List Ent} {e : Ent} {ks' : List Int} (e' : Ent) (w2 : World) (kv' : Value) (i' : Value)
    (hb : StepTo R { R with es := done ++ e :: rest } w0 w) (hst : startEs R.es ks0 = done ++ e' :: startEs rest ks') (hl : (done ++ e :: rest).length = R.es.length) (hm : ∀ x ∈ e :: rest, x ∈ R.es) (hj : ∀ j x, (e :: rest)[j]? = some x → R.es[done.length + j]? = some x)
    (hn : ∀ j x, R.es[j]? = some x → ∃ gl, av = some ⟨gl, 0, none⟩ ∧ w.cell? ⟨gl, j, none⟩ = some (.string ⟨x.nm.toArray⟩) ∧ gl < w.heap.size ∧ ∀ o, ¬ Reads R gl o)
    (hb2 : StepTo R { R with es := done ++ e' :: rest } w0 w2) (hw : ∀ k, k < w.heap.size → (∀ o, ¬ Reads R k o) → w2.heap[k]? = w.heap[k]?) (hsz : w.heap.size ≤ w2.heap.size) (hk : KeepIn R w2 kv' ks') (hi : i' = .int .i64 ((done.length : Int) + 1)) : StartRel R ks0 w0 av kv' i' w2 := by
  refine ⟨done ++ [e'], rest, ks', by rw [hi]; simp, hk, by simpa using hb2, by simpa using hst, by simp at hl ⊢; omega, fun x hx => hm x (List.mem_cons_of_mem _ hx), fun j x hx => ?_, fun j x hx => ?_⟩
  · have := hj (j + 1) x (by simpa using hx)
    rw [List.length_append, List.length_singleton, Nat.add_assoc, Nat.add_comm 1 j]; exact this
  · obtain ⟨gl, h1, h2, h3, h4⟩ := hn j x hx
    exact ⟨gl, h1, (World.cell?_of_block (w := w) (hw gl h3 h4)).trans h2, Nat.lt_of_lt_of_le h3 hsz, h4⟩
def StartPost (R : FsR) (ks : List Int) (w : World) (e : Ending) (w' : World) : Prop := e = .returned (.tuple #[]) ∧ StepTo R (startR R ks) w w'
set_option maxHeartbeats 8000000 in
theorem start_any (R : FsR) (w : World) (H : FsAt w R) (kv : Value) (ks : List Int) (hk : KeepIn R w kv ks) : Calls Tryd.prog 12 #[.pointer (some ⟨R.pb, 0, none⟩), kv] w (StartPost R ks w) := by
  have hl := list_any R w H
  have HH := Lib.hid H
  have HK0 := Lib.hid hk
  have HL := Lib.hid hl
  have hpb := H.pb_lt
  obtain ⟨ka, kc, rfl, hk1, hk2, _⟩ := hk
  have hlen0 : (R.es.length : Int) ≤ 64 := by have := H.many; omega
  clear hl H hk1 hk2
  go_enter Tryd.func12, Tryd.ntmps12
  go_wp2_with (go_at_call 19; (with_reducible refine HL.out.mono ?_); rintro e w0 ⟨v, rfl, ho, hb⟩; have HO := Lib.hid ho; have HB := Lib.hid hb; obtain ⟨av, cv, hv⟩ : ∃ av cv, v = .slice av R.es.length cv := (by rcases ho.2 with ⟨h, h0⟩ | ⟨g, cap, _, h, _⟩; exact ⟨_, _, by rw [h, h0]⟩; exact ⟨_, _, h⟩); subst hv; clear ho hb)
  have HREL : Hid (StartRel R ks w0 av (.slice ka ks.length kc) (.int .i64 ((0 : Nat) : Int)) w0) := Lib.hid (by
    have b0 := StepTo.of_below HH.out HB.out
    refine ⟨[], R.es, ks, rfl, HK0.out.step b0, ⟨b0.fs, Keep.refl _ _, rfl, rfl, fun _ _ _ h => h, fun _ _ _ h => h⟩, rfl, rfl, fun _ h => h, fun j e h => by simpa using h, fun j e hj => ?_⟩
    rcases HO.out.2 with ⟨h, h0⟩ | ⟨g, cap, cur, h, hg, hh, _⟩
    · rw [List.eq_nil_of_length_eq_zero h0] at hj; cases hj
    · injection h with h _ _; subst h
      have := HO.out.cells (g := g) rfl j (encStr e.nm) (by simp [namesE, hj])
      rw [Addr.add_mid, Nat.zero_add] at this
      exact ⟨g, rfl, this, (Array.getElem?_eq_some_iff.1 hh).1, fun o => far_of HH.out hg o⟩)
  go_loopw [1, 5, 6, 7, 13] (fun kv _ _ _ i wr => StartRel R ks w0 av kv i wr) (fun _ _ _ _ i _ => R.es.length - (intOf i).toNat)
  case atStart => exact HREL.out
  case round =>
    obtain ⟨done, rest, ks', rfl, hk', hb', hst', hl', hm', hj', hn'⟩ := hrel
    have HK' := Lib.hid hk'
    have HB' := Lib.hid hb'
    have HST' := Lib.hid hst'
    have HL' := Lib.hid hl'
    have HM' := Lib.hid hm'
    have HJ' := Lib.hid hj'
    have HN' := Lib.hid hn'
    obtain ⟨a', kc', rfl, hkc, hkm, hkx⟩ := hk'
    have q0 : wr.cell? ⟨R.pb, 0, none⟩ = some (.map (some R.mb)) := hb'.fs.mapc
    have hpr : R.pb < wr.heap.size := hb'.fs.pb_lt
    clear HREL
    cases rest with
    | nil =>
      have hd : decide ((done.length : Int) < R.es.length) = false := by simp at hl' ⊢; omega
      have hd' : decide (done.length < R.es.length) = false := by simp at hl' ⊢; omega
      have c2 : wr.cell? ⟨R.pb, 2, none⟩ = some (.bool R.armed) := by rw [hb'.fs.cell]; rfl
      have c3 : wr.cell? ⟨R.pb, 3, none⟩ = some (.int .i64 R.left) := by rw [hb'.fs.cell]; rfl
      have c4 : wr.cell? ⟨R.pb, 4, none⟩ = some (.bool R.down) := by rw [hb'.fs.cell]; rfl
      have f2 : wr.frozen? ⟨R.pb, 2, none⟩ = false := hb'.fs.free 2
      have f3 : wr.frozen? ⟨R.pb, 3, none⟩ = false := hb'.fs.free 3
      have f4 : wr.frozen? ⟨R.pb, 4, none⟩ = false := hb'.fs.free 4
      clear hb' hst' hl' hm' hj' hn' hkc hkm hkx
      go_wp2_with (fail)
      go_end0
      refine ⟨rfl, (StepTo.of_below HH.out HB.out).trans (HB'.out.trans ?_)⟩
      have h1 := HB'.out.fs.set (R' := { R with es := done ++ [], armed := false }) 2 (.bool false) rfl rfl rfl HB'.out.fs.leftOk rfl
      have h2 := h1.set (R' := { R with es := done ++ [], armed := false, left := 0 }) 3 (.int .i64 0) rfl rfl rfl (by simp) rfl
      have h3 := h2.set (R' := { R with es := done ++ [], armed := false, left := 0, down := false }) 4 (.bool false) rfl rfl rfl (by simp) rfl
      have hes : startR R ks = { R with es := done ++ [], armed := false, left := 0, down := false } := by unfold startR; rw [HST'.out]; rfl
      rw [hes]
      exact ⟨h3, ((HB'.out.fs.setKeep 2 (.bool false)).trans (h1.setKeep 3 (.int .i64 0)) fun _ _ _ h => h).trans (h2.setKeep 4 (.bool false)) fun _ _ _ h => h, rfl, rfl, fun _ _ _ h => h, fun _ _ _ h => h⟩
    | cons e rest =>
      obtain ⟨gl, hav, qn, hgl, hfar⟩ := hn' done.length e (by have := hj' 0 e rfl; simpa using this)
      have HFAR := Lib.hid hfar
      subst hav
      have qn' : wr.cell? ⟨gl, 0 + done.length, none⟩ = some (.string ⟨e.nm.toArray⟩) := by rw [Nat.zero_add]; exact qn
      have hmem : e ∈ R.es := hm' e (by simp)
      have hlt : done.length < R.es.length := by simp at hl'; omega
      obtain ⟨hvw, hsf, hle, hnok, hby⟩ := hb'.fs.ents e (by show e ∈ done ++ e :: rest; simp)
      obtain ⟨ae, ce, hve⟩ := hvw.len
      have hlk : (Instr.lookup 96 (.map (some R.mb)) (.string ⟨e.nm.toArray⟩) false).run Tryd.prog wr = .ok (.agg #[.slice ae e.xs.length ce, .int .i64 e.safe]) wr := by
        have h1 := hb'.fs.look1 ⟨e.nm.toArray⟩ (by have := (nmOk_len hnok).2; unfold maxLen; show e.nm.length ≤ _; omega)
        rw [show getE (ByteArray.mk e.nm.toArray).data.toList (done ++ e :: rest) = some e from getE_mid hb'.fs.sorted] at h1
        rw [show fileV (some e) = .agg #[.slice ae e.xs.length ce, .int .i64 e.safe] by show entV e = _; unfold entV; rw [hve]] at h1
        exact h1
      have HCR : Hid (∀ n, n ≤ e.xs.length → ∀ w1, Below wr.heap.size wr w1 → ∃ w2, (Instr.mapUpdate 96 (.map (some R.mb)) (.string ⟨e.nm.toArray⟩) (.agg #[.slice ae n n, .int .i64 n])).run Tryd.prog w1 = .ok () w2 ∧ StepTo R { R with es := done ++ cutEnt e n :: rest } w0 w2 ∧ Keep (fun k _ => k = R.mb) w1 w2) :=
        Lib.hid fun n hn w1 hb1 => cut_round (HH.out.below HB.out) hb' hmem n hn ⟨e.nm.toArray⟩ rfl ae ce hve w1 hb1
      have HVE := Lib.hid hve
      have HSF := Lib.hid hsf
      have HVW := Lib.hid hvw
      have hd : decide ((done.length : Int) < R.es.length) = true := by simp; omega
      by_cases heq : e.xs.length = e.safe
      · have HEQ := Lib.hid heq
        rw [heq] at hlk
        clear hb' hst' hl' hm' hj' hn' hkc hkm hkx hfar heq hmem hvw hsf hle hnok hby hve
        go_wp2_with (fail)
        go_roundw
        case rel =>
          exact StartRel.next e _ _ _ HB'.out (by rw [HST'.out]; show done ++ (if _ then _ else _) = _; rw [if_pos HEQ.out]) HL'.out HM'.out HJ'.out HN'.out (HB'.out.trans (.of_below HB'.out.fs (below1 _ _))) (fun k hk _ => Below.heap_alloc _ _ _ hk) (by simp) (HK'.out.turn (fun k hk _ => Below.heap_alloc _ _ _ hk) (by simp)) rfl
        case measure => simp [intOf]; omega
      · have hq1 : ((e.xs.length : Int) == (e.safe : Int)) = false := beq_eq_false_iff_ne.2 (by omega)
        have HNE := Lib.hid heq
        have hsfi : (e.safe : Int) ≤ e.xs.length := by omega
        have hlei : (e.xs.length : Int) ≤ 16777216 := by omega
        obtain ⟨V, hV⟩ : ∃ V, V = wr.alloc (.cells #[.slice ae e.xs.length ce, .int .i64 e.safe] 113) := ⟨_, rfl⟩
        have hbV : Below wr.heap.size wr V := by rw [hV]; exact below1 _ _
        have hsV : V.heap.size = wr.heap.size + 1 := by rw [hV]; simp
        have hx : V.heap[wr.heap.size]? = some (.cells #[.slice ae e.xs.length ce, .int .i64 e.safe] 113 (0, 0)) := by rw [hV]; exact heap_alloc_new _ _
        have hsx : ∀ w', Below V.heap.size V w' → w'.cell? ⟨R.pb, 0, none⟩ = some (.map (some R.mb)) ∧ w'.cell? ⟨wr.heap.size, 0, none⟩ = some (.slice ae e.xs.length ce) ∧ w'.cell? ⟨wr.heap.size, 1, none⟩ = some (.int .i64 e.safe) := fun w' hb1 =>
          ⟨(hb'.trans (.of_below hb'.fs (hbV.trans (hb1.mono (by omega))))).fs.mapc, cell_at ((hb1.block _ (by omega)).trans hx) rfl, cell_at ((hb1.block _ (by omega)).trans hx) rfl⟩
        have hmbl : R.mb < wr.heap.size := hb'.fs.mb_lt
        have hne := hb'.fs.ne
        have hsy : ∀ w3 w2, Below V.heap.size V w3 → Keep (fun k _ => k = R.mb) w3 w2 → w2.cell? ⟨R.pb, 0, none⟩ = some (.map (some R.mb)) ∧ w2.cell? ⟨wr.heap.size, 0, none⟩ = some (.slice ae e.xs.length ce) ∧ w2.cell? ⟨wr.heap.size, 1, none⟩ = some (.int .i64 e.safe) := fun w3 w2 hb1 hk1 => by
          have h0 := hsx w3 hb1
          have hF3 := (hb'.trans (.of_below hb'.fs (hbV.trans (hb1.mono (by omega))))).fs
          have hbx := (hb1.block _ (by omega)).trans hx
          exact ⟨hk1.cell hF3.own (fun h => hne h) h0.1, hk1.cell hbx (fun h => by omega) h0.2.1, hk1.cell hbx (fun h => by omega) h0.2.2⟩
        have hblk : ∀ w3 w2, Below V.heap.size V w3 → Keep (fun k _ => k = R.mb) w3 w2 → ∀ k, k < wr.heap.size → (∀ o, ¬ Reads R k o) → w2.heap[k]? = wr.heap[k]? := fun w3 w2 hb1 hk1 k hk2 hr => by
          have hsz := hb1.size
          rw [hk1.block k (by omega) fun o h => hr o (.inr (.inl h)), hb1.block k (by omega), hbV.block k hk2]
        have hfir : ∀ n, n ≤ e.xs.length → ∀ w1, Below V.heap.size V w1 → Calls Tryd.prog 48 #[.agg #[.slice ae e.xs.length ce, .int .i64 e.safe], .int .i64 (n : Int)] w1 fun e w3 => e = .returned (.slice ae n n) ∧ Below w1.heap.size w1 w3 := fun n hn w1 hb1 => by
          have h := first_any e.v e.xs e.safe n w1 (hvw.below (hbV.trans (hb1.mono (by omega)))) hn
          rw [hve] at h
          exact h.mono fun e w3 ⟨h1, h2⟩ => ⟨h1, h2⟩
        have hput : ∀ n, n ≤ e.xs.length → ∀ w1, Below V.heap.size V w1 → ∃ w2, (Instr.mapUpdate 96 (.map (some R.mb)) (.string ⟨e.nm.toArray⟩) (.agg #[.slice ae n n, .int .i64 n])).run Tryd.prog w1 = .ok () w2 ∧ StepTo R { R with es := done ++ cutEnt e n :: rest } w0 w2 ∧ Keep (fun k _ => k = R.mb) w1 w2 := fun n hn w1 hb1 => HCR.out n hn w1 (hbV.trans (hb1.mono (by omega)))
        have HSX := Lib.hid hsx
        have HSY := Lib.hid hsy
        have HBK := Lib.hid hblk
        have HFIR := Lib.hid hfir
        have HPUT := Lib.hid hput
        have HSV := Lib.hid hsV
        have HBV := Lib.hid hbV
        have HVV := Lib.hid hV
        cases ks' with
        | nil =>
          clear hb' hst' hl' hm' hj' hn' hkc hkm hkx hfar heq hmem hvw hsf hle hnok hby hve hsx hsy hblk hfir hput hsV hbV hV hx HCR
          go_upto_region 10 with (fail)
          rw [← HVV.out]
          have hS0 := HSX.out V.drew (Below.refl _ V).drew
          go_region_held3 (fun w' => w'.cell? ⟨R.pb, 0, none⟩ = some (.map (some R.mb)) ∧ w'.cell? ⟨wr.heap.size, 0, none⟩ = some (.slice ae e.xs.length ce) ∧ w'.cell? ⟨wr.heap.size, 1, none⟩ = some (.int .i64 e.safe))
            (first | (with_reducible exact hS0) | exact HSX.out _ HB3.out | exact HSY.out _ _ HB3.out HK2.out)
            (first | (go_at_call 48; (with_reducible refine (HFIR.out _ HSF.out _ (Below.refl _ V).drew).mono ?_); rintro e w3 ⟨rfl, hb3⟩; obtain ⟨w2, hr2, hst2, hk2⟩ := HPUT.out _ HSF.out w3 ((Below.refl _ V).drew.trans hb3); have HB3 := Lib.hid ((Below.refl V.heap.size V).drew.trans hb3); have HP2 := Lib.hid hst2; have HK2 := Lib.hid hk2; clear hb3 hst2 hk2))
          go_wp2_with (fail)
          go_roundw
          case rel =>
            have hsz : wr.heap.size ≤ w2.heap.size := Nat.le_trans HBV.out.size (Nat.le_trans HB3.out.size HK2.out.size)
            exact StartRel.next (cutEnt e e.safe) _ _ _ HB'.out (by rw [HST'.out]; show done ++ (if _ then _ else _) = _; rw [if_neg HNE.out]) HL'.out HM'.out HJ'.out HN'.out HP2.out (HBK.out _ _ HB3.out HK2.out) hsz (HK'.out.turn (HBK.out _ _ HB3.out HK2.out) hsz) rfl
          case measure => simp [intOf]; omega
        | cons k t =>
          obtain ⟨ab, ao, rfl, hkr, hkl, hkcell⟩ : ∃ ab ao, a' = some ⟨ab, ao, none⟩ ∧ (∀ o, ¬ Reads R ab o) ∧ ab < wr.heap.size ∧ wr.cell? ⟨ab, ao, none⟩ = some (.int .i64 k) := by
            rcases hkx with h | ⟨ab, ao, h1, h2, h3, h4⟩
            · cases h
            · exact ⟨ab, ao, h1, h2, h3, by have := h4 0 k rfl; rwa [Nat.add_zero] at this⟩
          obtain ⟨N, hN⟩ : ∃ N, N = keptN e k := ⟨_, rfl⟩
          obtain ⟨r, hr⟩ : ∃ r, r = min (max k 0) ((e.xs.length : Int) - e.safe) := ⟨_, rfl⟩
          have hr0 : 0 ≤ r := by rw [hr]; omega
          have hr1 : r ≤ (e.xs.length : Int) - e.safe := by rw [hr]; omega
          have hNr : ((N : Nat) : Int) = e.safe + r := by rw [hN]; unfold keptN; rw [← hr]; omega
          have hNle : N ≤ e.xs.length := by omega
          have hr2 : r ≤ 16777216 := by omega
          have hsf0 : (e.safe : Int) ≤ 16777216 := by omega
          have hw1 : IntKind.i64.wrap ((e.xs.length : Int) - e.safe) = (e.xs.length : Int) - e.safe := IntWalk.i64_in _ (by omega)
          have hw2 : IntKind.i64.wrap ((e.safe : Int) + r) = e.safe + r := IntWalk.i64_in _ (by omega)
          have hlenk : (0 : Int) < ((t.length : Nat) : Int) + 1 := by omega
          have hk1 : ∀ w', Below V.heap.size V w' → w'.cell? ⟨ab, ao, none⟩ = some (.int .i64 k) := fun w' hb1 => by
            rw [World.cell?_of_block (w := wr) (by rw [hb1.block ab (by omega)]; exact hbV.block ab hkl)]; exact hkcell
          have hk2 : ∀ w3 w2, Below V.heap.size V w3 → Keep (fun k _ => k = R.mb) w3 w2 → w2.cell? ⟨ab, ao, none⟩ = some (.int .i64 k) := fun w3 w2 hb1 hk1 => by
            rw [World.cell?_of_block (w := wr) (hblk w3 w2 hb1 hk1 ab hkl hkr)]; exact hkcell
          have hfir2 : ∀ w1, Below V.heap.size V w1 → Calls Tryd.prog 48 #[.agg #[.slice ae e.xs.length ce, .int .i64 e.safe], .int .i64 ((e.safe : Int) + r)] w1 fun e w3 => e = .returned (.slice ae N N) ∧ Below w1.heap.size w1 w3 := fun w1 hb1 => by rw [← hNr]; exact hfir N hNle w1 hb1
          have hput2 : ∀ w1, Below V.heap.size V w1 → ∃ w2, (Instr.mapUpdate 96 (.map (some R.mb)) (.string ⟨e.nm.toArray⟩) (.agg #[.slice ae N N, .int .i64 ((e.safe : Int) + r)])).run Tryd.prog w1 = .ok () w2 ∧ StepTo R { R with es := done ++ cutEnt e N :: rest } w0 w2 ∧ Keep (fun k _ => k = R.mb) w1 w2 := fun w1 hb1 => by rw [← hNr]; exact hput N hNle w1 hb1
          have hsl := fun w => sliceKlo (some ⟨ab, ao, none⟩) (t.length + 1) kc' 1 (by omega) w
          have HK1 := Lib.hid hk1
          have HK2' := Lib.hid hk2
          have HF2 := Lib.hid hfir2
          have HPT := Lib.hid hput2
          have HN := Lib.hid hN
          have HR := Lib.hid hr
          have HSL := Lib.hid hsl
          have hxl0 : (0 : Int) ≤ e.xs.length := by omega
          clear hb' hst' hl' hm' hj' hn' hkc hkm hkx hfar heq hmem hvw hsf hle hnok hby hve hsx hsy hblk hfir hput hsV hbV hV hx HCR hk1 hk2 hfir2 hput2 hN hr hNr hNle hkr hkl hkcell
          go_upto_region 8 with (fail)
          rw [← HVV.out]
          have hS0 : V.drew.cell? ⟨ab, ao, none⟩ = some (.int .i64 k) ∧ V.drew.cell? ⟨wr.heap.size, 0, none⟩ = some (.slice ae e.xs.length ce) ∧ V.drew.cell? ⟨wr.heap.size, 1, none⟩ = some (.int .i64 e.safe) := ⟨HK1.out V.drew (Below.refl _ V).drew, (HSX.out V.drew (Below.refl _ V).drew).2⟩
          go_region_held3 (fun w' => w'.cell? ⟨ab, ao, none⟩ = some (.int .i64 k) ∧ w'.cell? ⟨wr.heap.size, 0, none⟩ = some (.slice ae e.xs.length ce) ∧ w'.cell? ⟨wr.heap.size, 1, none⟩ = some (.int .i64 e.safe))
            (first | (with_reducible exact hS0))
            (first | (refine step_max2 (by rfl) (.tmp 37) (.const (.int .i64 0)) 3 rfl k 0 rfl rfl (max k 0) rfl ?_) | (refine step_min2 (by rfl) (.tmp 38) (.tmp 44) 3 rfl (max k 0) ((e.xs.length : Int) - e.safe) rfl rfl r HR.out.symm ?_))
          clear hS0
          go_upto_region 10 with (fail)
          generalize hak : (if kc' = 1 then some (⟨ab, ao, none⟩ : Addr) else some ⟨ab, ao + 1, none⟩) = aK
          have HAK := Lib.hid hak
          clear hak
          have hS0 := HSX.out V.drew.drew (Below.refl _ V).drew.drew
          go_region_held3 (fun w' => w'.cell? ⟨R.pb, 0, none⟩ = some (.map (some R.mb)) ∧ w'.cell? ⟨wr.heap.size, 0, none⟩ = some (.slice ae e.xs.length ce) ∧ w'.cell? ⟨wr.heap.size, 1, none⟩ = some (.int .i64 e.safe))
            (first | (with_reducible exact hS0) | exact HSX.out _ HB3.out | exact HSY.out _ _ HB3.out HK2.out)
            (first | (go_at_call 48; (with_reducible refine (HF2.out _ (Below.refl _ V).drew.drew).mono ?_); rintro e w3 ⟨rfl, hb3⟩; obtain ⟨w2, hr2', hst2, hk2⟩ := HPT.out w3 ((Below.refl _ V).drew.drew.trans hb3); have HB3 := Lib.hid ((Below.refl V.heap.size V).drew.drew.trans hb3); have HP2 := Lib.hid hst2; have HK2 := Lib.hid hk2; clear hb3 hst2 hk2))
          go_wp2_with (fail)
          go_roundw
          case rel =>
            have hsz : wr.heap.size ≤ w2.heap.size := Nat.le_trans HBV.out.size (Nat.le_trans HB3.out.size HK2.out.size)
            refine StartRel.next (cutEnt e N) _ _ _ HB'.out (by rw [HST'.out]; show done ++ (if _ then _ else _) = _; rw [if_neg HNE.out, HN.out]) HL'.out HM'.out HJ'.out HN'.out HP2.out (HBK.out _ _ HB3.out HK2.out) hsz ?_ rfl
            have hkt := HK'.out.tail.turn (HBK.out _ _ HB3.out HK2.out) hsz
            rw [← HAK.out]
            simpa [cutA, Addr.add_mid] using hkt
          case measure => simp [intOf]; omega
end Go.Proofs.YtggcodobkmhkgaaDoor

/- Part 19 of the proof. -/
import Derived.Test.YtggcodobkmhkgaaDoorFc18
namespace Go.Proofs.YtggcodobkmhkgaaDoor
set_option linter.unusedVariables false
set_option linter.unusedSimpArgs false
open Go.RowKit Go.Maps Go.Proofs
set_option maxRecDepth 100000
def st0 : St := ⟨[], 0, false, 0, false⟩
theorem bytes_new (w : World) (xs : List Int) (fr : Nat × Nat) (hl : xs.length ≤ maxLen) : BytesIn (w.alloc (.cells (byteVals xs).toArray 5 fr)) (.slice (some ⟨w.heap.size, 0, none⟩) xs.length xs.length) xs := by
  refine ⟨_, _, rfl, Nat.le_refl _, hl, .inr ⟨_, _, rfl, fun i x hi => ?_⟩⟩
  rw [Nat.zero_add, cell_of_row _ _ _ _ _ _ (heap_alloc_new w _)]
  simp [byteVals, hi]
/-- the file system at block p, of a call's own from block B on, is st -/
def OwnP (B : Nat) (w : World) (p : Nat) (st : St) : Prop := ∃ R, Own B w R ∧ R.pb = p ∧ absR R = st
theorem OwnP.below {B p : Nat} {w w' : World} {st : St} (h : OwnP B w p st) (hb : Below w.heap.size w w') : OwnP B w' p st := by
  obtain ⟨R, h1, h2⟩ := h
  exact ⟨R, h1.below hb, h2⟩
theorem OwnP.le {B p : Nat} {w : World} {st : St} (h : OwnP B w p st) : B ≤ w.heap.size := by obtain ⟨R, h1, h2⟩ := h; exact h1.le
/-- v is a slice of the numbers ks -/
def NumsIn (B : Nat) (w : World) (v : Value) (ks : List Int) : Prop :=
  ∃ a cap, v = .slice a ks.length cap ∧ ks.length ≤ cap ∧ cap ≤ maxLen ∧ (ks = [] ∨ ∃ ab ao, a = some ⟨ab, ao, none⟩ ∧ (ab < B ∨ ∃ cs, w.heap[ab]? = some (.cells cs 3 (0, 0))) ∧ ∀ i k, ks[i]? = some k → w.cell? ⟨ab, ao + i, none⟩ = some (.int .i64 k))
theorem NumsIn.keep {B : Nat} {w : World} {v : Value} {ks : List Int} (h : NumsIn B w v ks) {R : FsR} (ho : Own B w R) : KeepIn R w v ks := by
  obtain ⟨a, cap, rfl, h1, h2, h3⟩ := h
  refine ⟨a, cap, rfl, h1, h2, ?_⟩
  by_cases he : ks = []
  · exact .inl he
  · right
    rcases h3 with h3 | ⟨ab, ao, rfl, hw, hc⟩
    · exact absurd h3 he
    · have hlt : ab < w.heap.size := by
        cases ks with
        | nil => exact absurd rfl he
        | cons k t => exact World.block_lt_of_cell? w _ (hc 0 k rfl)
      refine ⟨ab, ao, rfl, fun o hr => ?_, hlt, hc⟩
      rcases hw with hw | ⟨cs, hw⟩
      · have := ho.reads ab o hr; omega
      · rcases hr with rfl | rfl | ⟨e, he, hu⟩
        · rw [ho.fs.own] at hw; injection hw with hw; injection hw with _ hw; exact absurd hw (by decide)
        · obtain ⟨es, cl, hb, _⟩ := ho.fs.map; rw [hb] at hw; cases hw
        · obtain ⟨cur, hc'⟩ := (ho.fs.ents e he).1.isU8 _ _ hu
          rw [hc'] at hw; injection hw with hw; injection hw with _ hw; exact absurd hw (by decide)
theorem ints_new (B : Nat) (w : World) (ks : List Int) (hl : ks.length ≤ maxLen) : NumsIn B (w.alloc (.cells (ks.map (Value.int .i64)).toArray 3)) (.slice (some ⟨w.heap.size, 0, none⟩) ks.length ks.length) ks := by
  refine ⟨_, _, rfl, Nat.le_refl _, hl, .inr ⟨_, _, rfl, .inr ⟨_, heap_alloc_new w _⟩, fun i x hi => ?_⟩⟩
  rw [Nat.zero_add, cell_of_row _ _ _ _ _ _ (heap_alloc_new w _)]
  simp [hi]
def OwnPost (B p : Nat) (w : World) (e : Option Nat) (st' : St) (r : Ending) (w' : World) : Prop := r = .returned (errV e) ∧ OwnP B w' p st' ∧ Below B w w'
/-- a call on a file system of one's own that answers an error -/
theorem meth_own {B : Nat} {R : FsR} {w : World} {c : Nat} {args : Array Value} {r : Option Nat × St} (h : Own B w R) (hc : Calls Tryd.prog c args w (MethPost R r w)) : Calls Tryd.prog c args w (OwnPost B R.pb w r.1 r.2) :=
  hc.mono fun e w' ⟨he, R', hs, ha⟩ => ⟨he, ⟨R', (h.step hs).1, hs.pb, ha⟩, (h.step hs).2⟩
theorem append_own {B p : Nat} {w : World} {st : St} (h : OwnP B w p st) (s : ByteArray) (hs : s.size ≤ maxLen) (y : Value) (ys : List Int) (hy : BytesIn w y ys) (hyb : bytesOk ys) (hyl : ys.length ≤ 140737488355328) (hsp : st.steps < 4611686018427387904) :
    Calls Tryd.prog 13 #[.pointer (some ⟨p, 0, none⟩), .string s, y] w (OwnPost B p w (aAppend st s ys).1 (aAppend st s ys).2) := by
  obtain ⟨R, h, rfl, rfl⟩ := h
  exact meth_own h (append_abs R w h.fs s hs y ys hy hyb hyl hsp)
theorem sync_own {B p : Nat} {w : World} {st : St} (h : OwnP B w p st) (s : ByteArray) (hs : s.size ≤ maxLen) (hsp : st.steps < 4611686018427387904) :
    Calls Tryd.prog 16 #[.pointer (some ⟨p, 0, none⟩), .string s] w (OwnPost B p w (aSync st s).1 (aSync st s).2) := by
  obtain ⟨R, h, rfl, rfl⟩ := h
  exact meth_own h (sync_abs R w h.fs s hs hsp)
theorem arm_own {B p : Nat} {w : World} {st : St} (h : OwnP B w p st) (n : Int) (hn : n ≤ 9223372036854775807) :
    Calls Tryd.prog 17 #[.pointer (some ⟨p, 0, none⟩), .int .i64 n] w (OwnPost B p w (aArm st n).1 (aArm st n).2) := by
  obtain ⟨R, h, rfl, rfl⟩ := h
  exact meth_own h (arm_abs R w h.fs n hn)
theorem remove_own {B p : Nat} {w : World} {st : St} (h : OwnP B w p st) (s : ByteArray) (hs : s.size ≤ maxLen) (hsp : st.steps < 4611686018427387904) :
    Calls Tryd.prog 43 #[.pointer (some ⟨p, 0, none⟩), .string s] w (OwnPost B p w (aRemove st s).1 (aRemove st s).2) := by
  obtain ⟨R, h, rfl, rfl⟩ := h
  exact meth_own h (remove_abs R w h.fs s hs hsp)
theorem cut_own {B p : Nat} {w : World} {st : St} (h : OwnP B w p st) (s : ByteArray) (hs : s.size ≤ maxLen) (n : Int) (hsp : st.steps < 4611686018427387904) :
    Calls Tryd.prog 44 #[.pointer (some ⟨p, 0, none⟩), .string s, .int .i64 n] w (OwnPost B p w (aCut st s n).1 (aCut st s n).2) := by
  obtain ⟨R, h, rfl, rfl⟩ := h
  exact meth_own h (cut_abs R w h.fs s hs n hsp)
theorem rename_own {B p : Nat} {w : World} {st : St} (h : OwnP B w p st) (s t : ByteArray) (hs : s.size ≤ maxLen) (ht : t.size ≤ maxLen) (hsp : st.steps < 4611686018427387904) :
    Calls Tryd.prog 42 #[.pointer (some ⟨p, 0, none⟩), .string s, .string t] w (OwnPost B p w (aRename st s t).1 (aRename st s t).2) := by
  obtain ⟨R, h, rfl, rfl⟩ := h
  exact meth_own h (rename_abs R w h.fs s t hs ht hsp)
theorem start_own {B p : Nat} {w : World} {st : St} (h : OwnP B w p st) (kv : Value) (ks : List Int) (hk : NumsIn B w kv ks) :
    Calls Tryd.prog 12 #[.pointer (some ⟨p, 0, none⟩), kv] w fun r w' => r = .returned (.tuple #[]) ∧ OwnP B w' p (aStart st ks) ∧ Below B w w' := by
  obtain ⟨R, h, rfl, rfl⟩ := h
  exact (start_abs R w h.fs kv ks (hk.keep h)).mono fun e w' ⟨he, R', hs, ha⟩ => ⟨he, ⟨R', (h.step hs).1, hs.pb, ha⟩, (h.step hs).2⟩
theorem read_own {B p : Nat} {w : World} {st : St} (h : OwnP B w p st) (s : ByteArray) (hs : s.size ≤ maxLen) (e : Option Nat) (f : Option AF) (ha : aFind st s = (e, f)) :
    Calls Tryd.prog 14 #[.pointer (some ⟨p, 0, none⟩), .string s] w fun r w' => ∃ a c, r = .returned (.tuple #[.slice a (afXs f).length c, errV e]) ∧ w'.ownsRow w.heap.size 5 1 (.slice a (afXs f).length c) (afXs f).length (byteVals (afXs f)) ∧ Below w.heap.size w w' := by
  obtain ⟨R, h, rfl, rfl⟩ := h
  rw [abs_find] at ha
  injection ha with h1 h2
  refine (fread_any R w h.fs s hs).mono fun r w' ⟨v, he, ho, hb⟩ => ?_
  rw [h1] at he
  have hx : fileXs (findR R s).2 = afXs f := by rw [← h2, abs_xs]
  rw [hx] at ho
  obtain ⟨a, c, rfl⟩ : ∃ a c, v = .slice a (afXs f).length c := by
    rcases ho.2 with ⟨h, h0⟩ | ⟨g, cap, _, h, _⟩
    · exact ⟨_, _, by rw [h, h0]⟩
    · exact ⟨_, _, h⟩
  exact ⟨a, c, he, ho, hb⟩
theorem down_own {B p : Nat} {w : World} {st : St} (h : OwnP B w p st) : Calls Tryd.prog 18 #[.pointer (some ⟨p, 0, none⟩)] w fun e w' => e = .returned (.bool st.down) ∧ w = w' := by
  obtain ⟨R, h, rfl, rfl⟩ := h
  exact down_any R w h.fs
theorem steps_own {B p : Nat} {w : World} {st : St} (h : OwnP B w p st) : Calls Tryd.prog 20 #[.pointer (some ⟨p, 0, none⟩)] w fun e w' => e = .returned (.int .i64 st.steps) ∧ w = w' := by
  obtain ⟨R, h, rfl, rfl⟩ := h
  exact fsteps_any R w h.fs
theorem safe_own {B p : Nat} {w : World} {st : St} (h : OwnP B w p st) (s : ByteArray) (hs : s.size ≤ maxLen) (e : Option Nat) (f : Option AF) (ha : aFind st s = (e, f)) :
    Calls Tryd.prog 46 #[.pointer (some ⟨p, 0, none⟩), .string s] w fun r w' => r = .returned (.tuple #[.int .i64 (afSafe f), errV e]) ∧ Below w.heap.size w w' := by
  obtain ⟨R, h, rfl, rfl⟩ := h
  rw [abs_find] at ha
  injection ha with h1 h2
  refine (safe_any R w h.fs s hs).mono fun r w' ⟨he, hb⟩ => ⟨?_, hb⟩
  rw [h1] at he
  have hx : fileSafe (findR R s).2 = afSafe f := by rw [← h2, abs_safe]
  rw [hx] at he
  exact he
theorem list_own {B p : Nat} {w : World} {st : St} (h : OwnP B w p st) : Calls Tryd.prog 19 #[.pointer (some ⟨p, 0, none⟩)] w fun r w' => ∃ v, r = .returned v ∧ w'.ownsRow w.heap.size 9 1 v st.L.length (st.L.map fun f => encStr f.nm) ∧ Below w.heap.size w w' := by
  obtain ⟨R, h, rfl, rfl⟩ := h
  refine (list_any R w h.fs).mono fun r w' ⟨v, he, ho, hb⟩ => ⟨v, he, ?_, hb⟩
  have h1 : (absR R).L.length = R.es.length := by show (R.es.map absE).length = _; rw [List.length_map]
  have h2 : (absR R).L.map (fun f => encStr f.nm) = namesE R.es := by show (R.es.map absE).map _ = _; rw [List.map_map]; rfl
  rw [h1, h2]; exact ho
theorem new_own (w : World) : Calls Tryd.prog 8 #[] w fun r w' => ∃ p, r = .returned (.pointer (some ⟨p, 0, none⟩)) ∧ OwnP w.heap.size w' p st0 ∧ Below w.heap.size w w' :=
  (fnew_any w).mono fun e w' ⟨he, hf, hb⟩ => ⟨_, he, ⟨freshR w, .made hf hb, rfl, rfl⟩, hb⟩
end Go.Proofs.YtggcodobkmhkgaaDoor
namespace Go.Proofs.YtggcodobkmhkgaaDoor
set_option linter.unusedVariables false
set_option linter.unusedSimpArgs false
open Go.RowKit Go.Maps Go.Proofs
set_option maxRecDepth 100000
def nmF : ByteArray := { data := #[102] }
def sSt1 : St := ⟨[⟨[102], [97, 98, 99], 0⟩], 1, false, 0, false⟩
def sSt2 : St := ⟨[⟨[102], [97, 98, 99], 3⟩], 2, false, 0, false⟩
def sSt3 : St := ⟨[⟨[102], [97, 98, 99, 100, 101, 102], 3⟩], 3, false, 0, false⟩
def sSt4 : St := ⟨[⟨[102], [97, 98, 99, 100], 4⟩], 3, false, 0, false⟩
theorem s_app1 : aAppend st0 nmF [97, 98, 99] = (none, sSt1) := by decide +kernel
theorem s_sync : aSync sSt1 nmF = (none, sSt2) := by decide +kernel
theorem s_app2 : aAppend sSt2 nmF [100, 101, 102] = (none, sSt3) := by decide +kernel
theorem s_start : aStart sSt3 [1] = sSt4 := by decide +kernel
theorem s_find : aFind sSt4 nmF = (none, some ⟨[102], [97, 98, 99, 100], 4⟩) := by decide +kernel
theorem nil_err (w : World) : (binOp .eql 37 .nilIface .nilIface).run Tryd.prog w = .ok (.bool true) w := by kernel_rfl
theorem small_bytes {xs : List Int} (h : xs.all (fun x => decide (0 ≤ x) && decide (x < 256)) = true) : bytesOk xs := fun x hx => by
  have := List.all_eq_true.1 h x hx
  simpa using this
theorem s_own {B p : Nat} {w : World} {c : Nat} {args : Array Value} {r : Option Nat × St} {e : Option Nat} {st' : St} (h : Calls Tryd.prog c args w (OwnPost B p w r.1 r.2)) (hr : r = (e, st')) : Calls Tryd.prog c args w (OwnPost B p w e st') := by rw [hr] at h; exact h
set_option maxHeartbeats 4000000 in
theorem sure_any (w : World) : Calls Tryd.prog 21 #[] w fun e w' => e = .returned (.bool true) ∧ Below w.heap.size w w' := by
  have kc := fun (w : World) (C : Array Value) (n c : Nat) => Lib.run_convert_bytes_const (P := Tryd.prog) w 30 5 C n c Tryd.underlying30 Tryd.underlying5
  have hne := nil_err
  go_enter Tryd.func21, Tryd.ntmps21
  go_wp2_with (go_at_call 8; (with_reducible refine (new_own _).mono ?_); rintro e w1 ⟨p, rfl, ho, hb⟩; have HO := Lib.hid ho; have HB := Lib.hid hb; clear ho hb)
  have HY1 := Lib.hid (show BytesIn (w1.alloc (.cells #[.int .u8 97, .int .u8 98, .int .u8 99] 5 (3, 4))) (.slice (some ⟨w1.heap.size, 0, none⟩) 3 3) [97, 98, 99] from bytes_new w1 [97, 98, 99] _ (by decide))
  refine (s_own (append_own (HO.out.below (below1 _ _)) nmF (by decide) _ [97, 98, 99] HY1.out (small_bytes (by decide)) (by decide) (by decide)) s_app1).mono ?_
  rintro e w2 ⟨rfl, ho2, hb2⟩
  simp only [errV]
  have HO2 := Lib.hid ho2
  have HB2 := Lib.hid ((HB.out.trans ((below1 _ _).mono HO.out.le)).trans hb2)
  clear ho2 hb2 HY1
  go_wp2_with (fail)
  refine (s_own (sync_own HO2.out nmF (by decide) (by decide)) s_sync).mono ?_
  rintro e w3 ⟨rfl, ho3, hb3⟩
  simp only [errV]
  have HO3 := Lib.hid ho3
  have HB3 := Lib.hid (HB2.out.trans hb3)
  clear ho3 hb3
  go_wp2_with (fail)
  have HY2 := Lib.hid (show BytesIn (w3.alloc (.cells #[.int .u8 100, .int .u8 101, .int .u8 102] 5 (3, 4))) (.slice (some ⟨w3.heap.size, 0, none⟩) 3 3) [100, 101, 102] from bytes_new w3 [100, 101, 102] _ (by decide))
  refine (s_own (append_own (HO3.out.below (below1 _ _)) nmF (by decide) _ [100, 101, 102] HY2.out (small_bytes (by decide)) (by decide) (by decide)) s_app2).mono ?_
  rintro e w4 ⟨rfl, ho4, hb4⟩
  simp only [errV]
  have HO4 := Lib.hid ho4
  have HB4 := Lib.hid ((HB3.out.trans ((below1 _ _).mono HO3.out.le)).trans hb4)
  clear ho4 hb4 HY2
  go_wp2_with (fail)
  have HK := Lib.hid (show NumsIn w.heap.size (w4.alloc (.cells #[.int .i64 1] 3)) (.slice (some ⟨w4.heap.size, 0, none⟩) 1 1) [1] from ints_new _ w4 [1] (by decide))
  have hst := start_own (HO4.out.below (below1 w4 (.cells #[.int .i64 1] 3))) _ [1] HK.out
  rw [s_start] at hst
  refine hst.mono ?_
  rintro e w5 ⟨rfl, ho5, hb5⟩
  have HO5 := Lib.hid ho5
  have HB5 := Lib.hid ((HB4.out.trans ((below1 _ _).mono HO4.out.le)).trans hb5)
  clear ho5 hb5 HK hst
  go_wp2_with (fail)
  refine (read_own HO5.out nmF (by decide) none _ s_find).mono ?_
  rintro e w6 ⟨a, c, rfl, ho6, hb6⟩
  simp only [errV, afXs, List.length_cons, List.length_nil, Nat.zero_add, Nat.reduceAdd] at ho6 ⊢
  have hcv : (convert 30 9 (.slice a 4 c)).run Tryd.prog w6 = .ok (.string { data := #[97, 98, 99, 100] }) w6 := conv_bytes w6 _ [97, 98, 99, 100] (owns_in ho6 (by decide))
  have HB6 := Lib.hid (HB5.out.trans (hb6.mono HO5.out.le))
  clear ho6 hb6
  go_wp2_with (fail)
  go_ret
  exact ⟨rfl, HB6.out⟩
end Go.Proofs.YtggcodobkmhkgaaDoor

/- One: what bytes begin with. -/
import Derived.Test.YtfdjmfomccckaaaDoorFrame
namespace Go.Proofs.YtfdjmfomccckaaaDoor
open Go.RowKit
set_option maxRecDepth 100000
theorem quiet_left {P : Program} {f : FuncId} {args : Array Value} {w : World} {n : Nat} {v : Value}
    (h : Calls P f args (w.drewN n) fun e w' => e = .returned v ∧ w.drewN n = w') : Calls P f args (w.drewN n) fun e w'' => e = .returned v ∧ ∃ m, w'' = w.drewN m :=
  h.mono fun _ _ ⟨he, hm⟩ => ⟨he, n, hm.symm⟩
theorem below_drewN (w : World) (n : Nat) : Below w.heap.size w (w.drewN n) := ⟨rfl, rfl, rfl, Nat.le_refl _, fun _ _ => rfl⟩
theorem BytesIn.drewN {w : World} {y : Value} {ys : List Int} (h : BytesIn w y ys) (n : Nat) : BytesIn (w.drewN n) y ys := h
theorem NibAt.drewN {w : World} (h : NibAt w) (n : Nat) : NibAt (w.drewN n) := h
def OnePost (r : Option Nat × List Int) (w : World) (e : Ending) (w' : World) : Prop :=
  Below w.heap.size w w' ∧ match r.1 with
    | some k => e = .returned (.tuple #[.slice none 0 0, .int .i64 0, errV (some k)])
    | none => ∃ v', e = .returned (.tuple #[v', .int .i64 ((r.2.length + 12 : Nat) : Int), .nilIface]) ∧ w'.ownsRow w.heap.size 5 1 v' r.2.length (byteVals r.2)
theorem one_empty (y : Value) (b : List Int) (w : World) (hy : BytesIn w y b) (h : b.length = 0) : Calls Tryd.prog 10 #[y] w (OnePost (some 8, []) w) := by
  obtain ⟨a, c, rfl, _, _, _⟩ := hy
  obtain rfl : b = [] := List.eq_nil_of_length_eq_zero h
  clear h
  go_enter Tryd.func10, Tryd.ntmps10
  go_wp2
  go_ret3
  exact ⟨Below.refl _ _, rfl⟩
theorem one_short (y : Value) (b : List Int) (w : World) (hy : BytesIn w y b) (h0 : b.length ≠ 0) (h : b.length < 8) : Calls Tryd.prog 10 #[y] w (OnePost (some 12, []) w) := by
  obtain ⟨a, c, rfl, _, _, _⟩ := hy
  have n1 : ¬ b.length = 0 := h0
  have n2 : (b.length : Int) < 8 := by omega
  clear h0
  go_enter Tryd.func10, Tryd.ntmps10
  go_wp2
  go_ret3
  exact ⟨Below.refl _ _, rfl⟩
theorem BytesIn.from {w : World} {a : Option Addr} {n cap : Nat} {xs : List Int} (h : BytesIn w (.slice a n cap) xs) (p : Nat) (hp : p ≤ n) : BytesIn w (.slice (cutA a cap p) (n - p) (cap - p)) (xs.drop p) := by
  have h1 := h.cut p n hp (Nat.le_refl _)
  rw [List.take_of_length_le (by have := h.cell.1; omega)] at h1
  exact h1
theorem BytesIn.upto {w : World} {a : Option Addr} {n cap : Nat} {xs : List Int} (h : BytesIn w (.slice a n cap) xs) (q : Nat) (hq : q ≤ n) : BytesIn w (.slice (cutA a cap 0) q cap) (xs.take q) := h.cut 0 q (Nat.zero_le _) hq
set_option maxHeartbeats 4000000 in
theorem one_head (y : Value) (b : List Int) (w : World) (hT : NibAt w) (hy : BytesIn w y b) (ho : bytesOk b) (h8 : 8 ≤ b.length) (hl : b.length ≤ 140737488355328)
    (h : rdW (b.drop 4) ≠ crcF (b.take 4) ∨ rdW b = 0 ∨ 1048576 < rdW b) : Calls Tryd.prog 10 #[y] w (OnePost (some 11, []) w) := by
  obtain ⟨a, c, rfl, hc, hm, hx⟩ := id hy
  have n1 : ¬ b.length = 0 := by omega
  have n2 : ¬ (b.length : Int) < 8 := by omega
  have s1 : ∀ w, (Instr.slice 22 (.slice a b.length c) (some (.int .i64 4)) none none).run Tryd.prog w = .ok (.slice (cutA a c 4) (b.length - 4) (c - 4)) w := sliceBlo a b.length c 4 (by omega)
  have s2 : ∀ w, (Instr.slice 22 (.slice a b.length c) none (some (.int .i64 4)) none).run Tryd.prog w = .ok (.slice (cutA a c 0) 4 c) w := sliceBhi a b.length c 4 (by omega)
  have C0 := Lib.hid (readw_any _ b w hy ho (by omega))
  have C1 := Lib.hid (fun W (hw : BytesIn W (.slice (cutA a c 4) (b.length - 4) (c - 4)) (b.drop 4)) => readw_any _ (b.drop 4) W hw (ho.drop 4) (by rw [List.length_drop]; omega))
  have C2 := Lib.hid (fun W (hT : NibAt W) (hw : BytesIn W (.slice (cutA a c 0) 4 c) (b.take 4)) => sumc_any _ (b.take 4) W hT hw (ho.take 4) (by rw [List.length_take]; omega))
  have Y1 := Lib.hid (hy.from 4 (by omega))
  have Y2 := Lib.hid (hy.upto 4 (by omega))
  have HT := Lib.hid hT
  generalize rdW (b.drop 4) = s at *
  generalize crcF (b.take 4) = t at *
  generalize rdW b = n at *
  clear hT hy ho hx hm hc
  by_cases hst : s = t
  · subst hst
    have hst' : ((s : Int) != (s : Int)) = false := by simp
    by_cases hz : n = 0
    · subst hz
      clear h
      go_enter Tryd.func10, Tryd.ntmps10
      go_wp2_with (go_at_call 22; (with_reducible refine C0.out.mono ?_); rintro e w1 ⟨rfl, nd, rfl⟩; have HB := Lib.hid (below_drewN w nd); replace Y1 := Lib.hid (Y1.out.drewN nd); replace Y2 := Lib.hid (Y2.out.drewN nd); replace HT := Lib.hid (HT.out.drewN nd); generalize w.drewN nd = w1 at *)
      go_quiet ((first | (go_at_call 22; exact Calls.quiet_of (C1.out _ (Y1.out.drewN _))) | (go_at_call 17; exact quiet_left (C2.out _ (HT.out.drewN _) (Y2.out.drewN _)))))
      go_wp2
      go_ret3
      exact ⟨HB.out.trans ((below_drewN w1 nq).mono HB.out.size), rfl⟩
    · have hz' : ((n : Int) == 0) = false := by simp; omega
      have hg : decide ((1048576 : Int) < (n : Int)) = true := by simp; omega
      clear h
      go_enter Tryd.func10, Tryd.ntmps10
      go_wp2_with (go_at_call 22; (with_reducible refine C0.out.mono ?_); rintro e w1 ⟨rfl, nd, rfl⟩; have HB := Lib.hid (below_drewN w nd); replace Y1 := Lib.hid (Y1.out.drewN nd); replace Y2 := Lib.hid (Y2.out.drewN nd); replace HT := Lib.hid (HT.out.drewN nd); generalize w.drewN nd = w1 at *)
      go_quiet ((first | (go_at_call 22; exact Calls.quiet_of (C1.out _ (Y1.out.drewN _))) | (go_at_call 17; exact quiet_left (C2.out _ (HT.out.drewN _) (Y2.out.drewN _)))))
      go_wp2
      go_ret3
      exact ⟨HB.out.trans ((below_drewN w1 nq).mono HB.out.size), rfl⟩
  · have hst' : ((s : Int) != (t : Int)) = true := by simp; omega
    clear h
    go_enter Tryd.func10, Tryd.ntmps10
    go_wp2_with (go_at_call 22; (with_reducible refine C0.out.mono ?_); rintro e w1 ⟨rfl, nd, rfl⟩; have HB := Lib.hid (below_drewN w nd); replace Y1 := Lib.hid (Y1.out.drewN nd); replace Y2 := Lib.hid (Y2.out.drewN nd); replace HT := Lib.hid (HT.out.drewN nd); generalize w.drewN nd = w1 at *)
    go_quiet ((first | (go_at_call 22; exact Calls.quiet_of (C1.out _ (Y1.out.drewN _))) | (go_at_call 17; exact quiet_left (C2.out _ (HT.out.drewN _) (Y2.out.drewN _)))))
    go_wp2
    go_ret3
    exact ⟨HB.out.trans ((below_drewN w1 nq).mono HB.out.size), rfl⟩
theorem owns_base {w : World} {base base' n : Nat} {v : Value} {vs : List Value} (h : w.ownsRow base 5 1 v n vs) (hb : base' ≤ base) : w.ownsRow base' 5 1 v n vs := by
  obtain ⟨h1, h2⟩ := h
  refine ⟨h1, ?_⟩
  rcases h2 with h2 | ⟨g, c, cur, e1, e2, r⟩
  · exact .inl h2
  · exact .inr ⟨g, c, cur, e1, Nat.le_trans hb e2, r⟩
/-- what One knows behind its first tests -/
theorem one_rest (y : Value) (b : List Int) (w : World) (hT : NibAt w) (hy : BytesIn w y b) (ho : bytesOk b) (h8 : 8 ≤ b.length) (hl : b.length ≤ 140737488355328) (n : Nat) (hn : rdW b = n)
    (h1 : rdW (b.drop 4) = crcF (b.take 4)) (h2 : n ≠ 0) (h3 : n ≤ 1048576) (hs : b.length < n + 12) : Calls Tryd.prog 10 #[y] w (OnePost (some 12, []) w) := by
  obtain ⟨a, c, rfl, hc, hm, hx⟩ := id hy
  have n1 : ¬ b.length = 0 := by omega
  have n2 : ¬ (b.length : Int) < 8 := by omega
  have s1 : ∀ w, (Instr.slice 22 (.slice a b.length c) (some (.int .i64 4)) none none).run Tryd.prog w = .ok (.slice (cutA a c 4) (b.length - 4) (c - 4)) w := sliceBlo a b.length c 4 (by omega)
  have s2 : ∀ w, (Instr.slice 22 (.slice a b.length c) none (some (.int .i64 4)) none).run Tryd.prog w = .ok (.slice (cutA a c 0) 4 c) w := sliceBhi a b.length c 4 (by omega)
  have C0 := Lib.hid (readw_any _ b w hy ho (by omega))
  have C1 := Lib.hid (fun W (hw : BytesIn W (.slice (cutA a c 4) (b.length - 4) (c - 4)) (b.drop 4)) => readw_any _ (b.drop 4) W hw (ho.drop 4) (by rw [List.length_drop]; omega))
  have C2 := Lib.hid (fun W (hT : NibAt W) (hw : BytesIn W (.slice (cutA a c 0) 4 c) (b.take 4)) => sumc_any _ (b.take 4) W hT hw (ho.take 4) (by rw [List.length_take]; omega))
  have Y1 := Lib.hid (hy.from 4 (by omega))
  have Y2 := Lib.hid (hy.upto 4 (by omega))
  have HT := Lib.hid hT
  rw [h1] at C1
  rw [hn] at C0
  have hz' : ((n : Int) == 0) = false := by simp; omega
  have hg : decide ((1048576 : Int) < (n : Int)) = false := by simp; omega
  have hst' : ((crcF (b.take 4) : Int) != (crcF (b.take 4) : Int)) = false := by simp
  generalize crcF (b.take 4) = t at *
  have hlt : (b.length : Int) < (n : Int) + 12 := by omega
  clear hT hy ho hx h1 hn hs
  go_enter Tryd.func10, Tryd.ntmps10
  go_wp2_with (go_at_call 22; (with_reducible refine C0.out.mono ?_); rintro e w1 ⟨rfl, nd, rfl⟩; have HB := Lib.hid (below_drewN w nd); replace Y1 := Lib.hid (Y1.out.drewN nd); replace Y2 := Lib.hid (Y2.out.drewN nd); replace HT := Lib.hid (HT.out.drewN nd); generalize w.drewN nd = w1 at *)
  go_quiet ((first | (go_at_call 22; exact Calls.quiet_of (C1.out _ (Y1.out.drewN _))) | (go_at_call 17; exact quiet_left (C2.out _ (HT.out.drewN _) (Y2.out.drewN _)))))
  go_wp2
  go_ret3
  exact ⟨HB.out.trans ((below_drewN w1 nq).mono HB.out.size), rfl⟩
theorem one_fit (y : Value) (b : List Int) (w : World) (hT : NibAt w) (hy : BytesIn w y b) (ho : bytesOk b) (h8 : 8 ≤ b.length) (hl : b.length ≤ 140737488355328) (n : Nat) (hn : rdW b = n)
    (h1 : rdW (b.drop 4) = crcF (b.take 4)) (h2 : n ≠ 0) (h3 : n ≤ 1048576) (hs : n + 12 ≤ b.length) (p : List Int) (hp : (b.take (n + 8)).drop 8 = p) (h4 : rdW (b.drop (n + 8)) = crcF p) : Calls Tryd.prog 10 #[y] w (OnePost (none, p) w) := by
  obtain ⟨a, c, rfl, hc, hm, hx⟩ := id hy
  have n1 : ¬ b.length = 0 := by omega
  have n2 : ¬ (b.length : Int) < 8 := by omega
  have s1 : ∀ w, (Instr.slice 22 (.slice a b.length c) (some (.int .i64 4)) none none).run Tryd.prog w = .ok (.slice (cutA a c 4) (b.length - 4) (c - 4)) w := sliceBlo a b.length c 4 (by omega)
  have s2 : ∀ w, (Instr.slice 22 (.slice a b.length c) none (some (.int .i64 4)) none).run Tryd.prog w = .ok (.slice (cutA a c 0) 4 c) w := sliceBhi a b.length c 4 (by omega)
  have s3 : ∀ w, (Instr.slice 22 (.slice a b.length c) (some (.int .i64 8)) (some (.int .i64 ((n : Int) + 12 - 4))) none).run Tryd.prog w = .ok (.slice (cutA a c 8) n (c - 8)) w := fun w => by rw [show (n : Int) + 12 - 4 = ((n + 8 : Nat) : Int) by omega]; exact sliceBlh a b.length c 8 (n + 8) (by omega) (by omega) w
  have s4 : ∀ w, (Instr.slice 22 (.slice a b.length c) (some (.int .i64 ((n : Int) + 12 - 4))) none none).run Tryd.prog w = .ok (.slice (cutA a c (n + 8)) (b.length - (n + 8)) (c - (n + 8))) w := fun w => by rw [show (n : Int) + 12 - 4 = ((n + 8 : Nat) : Int) by omega]; exact sliceBlo a b.length c (n + 8) (by omega) w
  have C0 := Lib.hid (readw_any _ b w hy ho (by omega))
  have C1 := Lib.hid (fun W (hw : BytesIn W (.slice (cutA a c 4) (b.length - 4) (c - 4)) (b.drop 4)) => readw_any _ (b.drop 4) W hw (ho.drop 4) (by rw [List.length_drop]; omega))
  have C2 := Lib.hid (fun W (hT : NibAt W) (hw : BytesIn W (.slice (cutA a c 0) 4 c) (b.take 4)) => sumc_any _ (b.take 4) W hT hw (ho.take 4) (by rw [List.length_take]; omega))
  have Y1 := Lib.hid (hy.from 4 (by omega))
  have Y2 := Lib.hid (hy.upto 4 (by omega))
  have HT := Lib.hid hT
  rw [h1] at C1
  rw [hn] at C0
  have Y3 : BytesIn w (.slice (cutA a c 8) n (c - 8)) ((b.take (n + 8)).drop 8) := hy.cut 8 (n + 8) (by omega) (by omega)
  have hpl : p.length = n := by rw [← hp, List.length_drop, List.length_take]; omega
  have hpo : bytesOk p := by rw [← hp]; exact (ho.take _).drop _
  have Y4 := Lib.hid (hy.from (n + 8) (by omega))
  have C3 := Lib.hid (fun W (hw : BytesIn W (.slice (cutA a c (n + 8)) (b.length - (n + 8)) (c - (n + 8))) (b.drop (n + 8))) => readw_any _ (b.drop (n + 8)) W hw (ho.drop _) (by rw [List.length_drop]; omega))
  rw [hp] at Y3
  rw [h4] at C3
  have HP := Lib.hid (And.intro hpl hpo)
  replace Y3 := Lib.hid Y3
  have hz' : ((n : Int) == 0) = false := by simp; omega
  have hg : decide ((1048576 : Int) < (n : Int)) = false := by simp; omega
  have hst' : ((crcF (b.take 4) : Int) != (crcF (b.take 4) : Int)) = false := by simp
  have hlt : ¬ (b.length : Int) < (n : Int) + 12 := by omega
  generalize crcF (b.take 4) = t at *
  clear hT hy ho hx h1 hn hp h4 hpl hpo
  go_enter Tryd.func10, Tryd.ntmps10
  go_wp2_with (go_at_call 22; (with_reducible refine C0.out.mono ?_); rintro e w1 ⟨rfl, nd, rfl⟩; have HB := Lib.hid (below_drewN w nd); replace Y1 := Lib.hid (Y1.out.drewN nd); replace Y2 := Lib.hid (Y2.out.drewN nd); replace Y3 := Lib.hid (Y3.out.drewN nd); replace Y4 := Lib.hid (Y4.out.drewN nd); replace HT := Lib.hid (HT.out.drewN nd); generalize w.drewN nd = w1 at *)
  go_quiet ((first | (go_at_call 22; exact Calls.quiet_of (C1.out _ (Y1.out.drewN _))) | (go_at_call 17; exact quiet_left (C2.out _ (HT.out.drewN _) (Y2.out.drewN _)))))
  have HB2 := Lib.hid (HB.out.trans ((below_drewN w1 nq).mono HB.out.size))
  replace Y3 := Lib.hid (Y3.out.drewN nq)
  replace Y4 := Lib.hid (Y4.out.drewN nq)
  replace HT := Lib.hid (HT.out.drewN nq)
  clear Y1 Y2 C1 C2 C0 s1 s2 hst' HB
  generalize w1.drewN nq = w2 at *
  go_wp2_with (first
    | (go_at_call 22; (with_reducible refine (C3.out _ Y4.out).mono ?_); rintro e w3 ⟨rfl, nd, rfl⟩; replace HB2 := Lib.hid (HB2.out.trans ((below_drewN w2 nd).mono HB2.out.size)); replace Y3 := Lib.hid (Y3.out.drewN nd); replace HT := Lib.hid (HT.out.drewN nd); clear Y4 C3; generalize w2.drewN nd = w3 at *)
    | (go_at_call 17; (with_reducible refine (sumc_any _ p w3 HT.out Y3.out HP.out.2 (by rw [HP.out.1]; omega)).mono ?_); rintro e w4 ⟨rfl, rfl⟩)
    | (go_at_call 23; (with_reducible refine (clone_any _ p w3 Y3.out (by rw [HP.out.1]; omega)).mono ?_); rintro e w4 ⟨v', rfl, ho4, hb4⟩; have H4 := Lib.hid (owns_base ho4 HB2.out.size); have HB4 := Lib.hid (HB2.out.trans (hb4.mono HB2.out.size)); clear ho4 hb4))
  go_ret3
  exact ⟨HB4.out, v', by rw [HP.out.1]; rfl, H4.out⟩
theorem one_spoilt (y : Value) (b : List Int) (w : World) (hT : NibAt w) (hy : BytesIn w y b) (ho : bytesOk b) (h8 : 8 ≤ b.length) (hl : b.length ≤ 140737488355328) (n : Nat) (hn : rdW b = n)
    (h1 : rdW (b.drop 4) = crcF (b.take 4)) (h2 : n ≠ 0) (h3 : n ≤ 1048576) (hs : n + 12 ≤ b.length) (p : List Int) (hp : (b.take (n + 8)).drop 8 = p) (h4 : rdW (b.drop (n + 8)) ≠ crcF p) : Calls Tryd.prog 10 #[y] w (OnePost (some 11, []) w) := by
  obtain ⟨a, c, rfl, hc, hm, hx⟩ := id hy
  have n1 : ¬ b.length = 0 := by omega
  have n2 : ¬ (b.length : Int) < 8 := by omega
  have s1 : ∀ w, (Instr.slice 22 (.slice a b.length c) (some (.int .i64 4)) none none).run Tryd.prog w = .ok (.slice (cutA a c 4) (b.length - 4) (c - 4)) w := sliceBlo a b.length c 4 (by omega)
  have s2 : ∀ w, (Instr.slice 22 (.slice a b.length c) none (some (.int .i64 4)) none).run Tryd.prog w = .ok (.slice (cutA a c 0) 4 c) w := sliceBhi a b.length c 4 (by omega)
  have s3 : ∀ w, (Instr.slice 22 (.slice a b.length c) (some (.int .i64 8)) (some (.int .i64 ((n : Int) + 12 - 4))) none).run Tryd.prog w = .ok (.slice (cutA a c 8) n (c - 8)) w := fun w => by rw [show (n : Int) + 12 - 4 = ((n + 8 : Nat) : Int) by omega]; exact sliceBlh a b.length c 8 (n + 8) (by omega) (by omega) w
  have s4 : ∀ w, (Instr.slice 22 (.slice a b.length c) (some (.int .i64 ((n : Int) + 12 - 4))) none none).run Tryd.prog w = .ok (.slice (cutA a c (n + 8)) (b.length - (n + 8)) (c - (n + 8))) w := fun w => by rw [show (n : Int) + 12 - 4 = ((n + 8 : Nat) : Int) by omega]; exact sliceBlo a b.length c (n + 8) (by omega) w
  have C0 := Lib.hid (readw_any _ b w hy ho (by omega))
  have C1 := Lib.hid (fun W (hw : BytesIn W (.slice (cutA a c 4) (b.length - 4) (c - 4)) (b.drop 4)) => readw_any _ (b.drop 4) W hw (ho.drop 4) (by rw [List.length_drop]; omega))
  have C2 := Lib.hid (fun W (hT : NibAt W) (hw : BytesIn W (.slice (cutA a c 0) 4 c) (b.take 4)) => sumc_any _ (b.take 4) W hT hw (ho.take 4) (by rw [List.length_take]; omega))
  have Y1 := Lib.hid (hy.from 4 (by omega))
  have Y2 := Lib.hid (hy.upto 4 (by omega))
  have HT := Lib.hid hT
  rw [h1] at C1
  rw [hn] at C0
  have Y3 : BytesIn w (.slice (cutA a c 8) n (c - 8)) ((b.take (n + 8)).drop 8) := hy.cut 8 (n + 8) (by omega) (by omega)
  have hpl : p.length = n := by rw [← hp, List.length_drop, List.length_take]; omega
  have hpo : bytesOk p := by rw [← hp]; exact (ho.take _).drop _
  have Y4 := Lib.hid (hy.from (n + 8) (by omega))
  have C3 := Lib.hid (fun W (hw : BytesIn W (.slice (cutA a c (n + 8)) (b.length - (n + 8)) (c - (n + 8))) (b.drop (n + 8))) => readw_any _ (b.drop (n + 8)) W hw (ho.drop _) (by rw [List.length_drop]; omega))
  rw [hp] at Y3
  have hne : ((rdW (b.drop (n + 8)) : Int) != (crcF p : Int)) = true := by simp; omega
  have HS := Lib.hid (fun W (hT : NibAt W) (hw : BytesIn W (.slice (cutA a c 8) n (c - 8)) p) => sumc_any _ p W hT hw hpo (by rw [hpl]; omega))
  generalize crcF p = v at *
  generalize rdW (b.drop (n + 8)) = u at *
  have HP := Lib.hid (And.intro hpl hpo)
  replace Y3 := Lib.hid Y3
  have hz' : ((n : Int) == 0) = false := by simp; omega
  have hg : decide ((1048576 : Int) < (n : Int)) = false := by simp; omega
  have hst' : ((crcF (b.take 4) : Int) != (crcF (b.take 4) : Int)) = false := by simp
  have hlt : ¬ (b.length : Int) < (n : Int) + 12 := by omega
  generalize crcF (b.take 4) = t at *
  clear hT hy ho hx h1 hn hp h4 hpl hpo
  go_enter Tryd.func10, Tryd.ntmps10
  go_wp2_with (go_at_call 22; (with_reducible refine C0.out.mono ?_); rintro e w1 ⟨rfl, nd, rfl⟩; have HB := Lib.hid (below_drewN w nd); replace Y1 := Lib.hid (Y1.out.drewN nd); replace Y2 := Lib.hid (Y2.out.drewN nd); replace Y3 := Lib.hid (Y3.out.drewN nd); replace Y4 := Lib.hid (Y4.out.drewN nd); replace HT := Lib.hid (HT.out.drewN nd); generalize w.drewN nd = w1 at *)
  go_quiet ((first | (go_at_call 22; exact Calls.quiet_of (C1.out _ (Y1.out.drewN _))) | (go_at_call 17; exact quiet_left (C2.out _ (HT.out.drewN _) (Y2.out.drewN _)))))
  have HB2 := Lib.hid (HB.out.trans ((below_drewN w1 nq).mono HB.out.size))
  replace Y3 := Lib.hid (Y3.out.drewN nq)
  replace Y4 := Lib.hid (Y4.out.drewN nq)
  replace HT := Lib.hid (HT.out.drewN nq)
  clear Y1 Y2 C1 C2 C0 s1 s2 hst' HB
  generalize w1.drewN nq = w2 at *
  go_wp2_with (first
    | (go_at_call 22; (with_reducible refine (C3.out _ Y4.out).mono ?_); rintro e w3 ⟨rfl, nd, rfl⟩; replace HB2 := Lib.hid (HB2.out.trans ((below_drewN w2 nd).mono HB2.out.size)); replace Y3 := Lib.hid (Y3.out.drewN nd); replace HT := Lib.hid (HT.out.drewN nd); clear Y4 C3; generalize w2.drewN nd = w3 at *)
    | (go_at_call 17; (with_reducible refine (HS.out w3 HT.out Y3.out).mono ?_); rintro e w4 ⟨rfl, rfl⟩))
  go_ret3
  exact ⟨HB2.out, rfl⟩
theorem one_any (y : Value) (b : List Int) (w : World) (hT : NibAt w) (hy : BytesIn w y b) (ho : bytesOk b) (hl : b.length ≤ 140737488355328) : Calls Tryd.prog 10 #[y] w (OnePost (oneF b) w) := by
  unfold oneF
  split
  · next h => exact one_empty y b w hy h
  · next h =>
    split
    · next h8 => exact one_short y b w hy h h8
    · next h8 =>
      split
      · next h1 => exact one_head y b w hT hy ho (by omega) hl h1
      · next h1 =>
        split
        · next h2 => exact one_rest y b w hT hy ho (by omega) hl _ rfl (by omega) (by omega) (by omega) h2
        · next h2 =>
          split
          · next h3 => exact one_spoilt y b w hT hy ho (by omega) hl _ rfl (by omega) (by omega) (by omega) (by omega) _ rfl h3
          · next h3 => exact one_fit y b w hT hy ho (by omega) hl _ rfl (by omega) (by omega) (by omega) (by omega) _ rfl (by omega)
end Go.Proofs.YtfdjmfomccckaaaDoor

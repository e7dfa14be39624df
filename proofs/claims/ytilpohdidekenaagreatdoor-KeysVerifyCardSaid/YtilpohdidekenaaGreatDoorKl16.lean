/- Part 16 of the proof. -/
import Derived.LaidEql
import Derived.Stop.Asserts
import Derived.RowKitTokens
import Derived.Lib.IfaceEq
import Derived.Test.YtilpohdidekenaaGreatDoorKl1
import Derived.Test.YtilpohdidekenaaGreatDoorKl15
namespace Go.Proofs.YtilpohdidekenaaGreatDoor
set_option linter.unusedVariables false
set_option linter.unusedSimpArgs false
open Go.RowKit
set_option maxRecDepth 100000
theorem quiet_left {P : Program} {f : FuncId} {args : Array Value} {w : World} {n : Nat} {v : Value}
    (h : Calls P f args (w.drewN n) fun e w' => e = .returned v ∧ w.drewN n = w') : Calls P f args (w.drewN n) fun e w'' => e = .returned v ∧ ∃ m, w'' = w.drewN m :=
  h.mono fun _ _ ⟨he, hm⟩ => ⟨he, n, hm.symm⟩
theorem below_drewN (w : World) (n : Nat) : Below w.heap.size w (w.drewN n) := ⟨rfl, rfl, rfl, Nat.le_refl _, fun _ _ => rfl⟩
theorem BytesIn.drewN {w : World} {y : Value} {ys : List Int} (h : BytesIn w y ys) (n : Nat) : BytesIn (w.drewN n) y ys := h
theorem NibAt.drewN {w : World} (h : NibAt w) (n : Nat) : NibAt (w.drewN n) := h
def OnePost (r : Option Nat × List Int) (w : World) (e : Ending) (w' : World) : Prop :=
  Below w.heap.size w w' ∧ match r.1 with
    | some k => e = .returned (.tuple #[.slice none 0 0, .int .i64 0, errV (some k)])
    | none => ∃ v', e = .returned (.tuple #[v', .int .i64 ((r.2.length + 12 : Nat) : Int), .nilIface]) ∧ w'.ownsRow w.heap.size 5 1 v' r.2.length (byteVals r.2)
theorem one_empty (y : Value) (b : List Int) (w : World) (hy : BytesIn w y b) (h : b.length = 0) : Calls Tryz.prog 120 #[y] w (OnePost (some 8, []) w) := by
  obtain ⟨a, c, rfl, _, _, _⟩ := hy
  obtain rfl : b = [] := List.eq_nil_of_length_eq_zero h
  clear h
  go_enter Tryz.func120, Tryz.ntmps120
  go_wp2
  go_ret3
  exact ⟨Below.refl _ _, rfl⟩
theorem one_short (y : Value) (b : List Int) (w : World) (hy : BytesIn w y b) (h0 : b.length ≠ 0) (h : b.length < 8) : Calls Tryz.prog 120 #[y] w (OnePost (some 12, []) w) := by
  obtain ⟨a, c, rfl, _, _, _⟩ := hy
  have n1 : ¬ b.length = 0 := h0
  have n2 : (b.length : Int) < 8 := by omega
  clear h0
  go_enter Tryz.func120, Tryz.ntmps120
  go_wp2
  go_ret3
  exact ⟨Below.refl _ _, rfl⟩
theorem BytesIn.from {w : World} {a : Option Addr} {n cap : Nat} {xs : List Int} (h : BytesIn w (.slice a n cap) xs) (p : Nat) (hp : p ≤ n) : BytesIn w (.slice (cutA a cap p) (n - p) (cap - p)) (xs.drop p) := by
  have h1 := h.cut p n hp (Nat.le_refl _)
  rw [List.take_of_length_le (by have := h.cell.1; omega)] at h1
  exact h1
theorem BytesIn.upto {w : World} {a : Option Addr} {n cap : Nat} {xs : List Int} (h : BytesIn w (.slice a n cap) xs) (q : Nat) (hq : q ≤ n) : BytesIn w (.slice (cutA a cap 0) q cap) (xs.take q) := h.cut 0 q (Nat.zero_le _) hq
set_option maxHeartbeats 4000000 in
theorem one_head (y : Value) (b : List Int) (w : World) (hT : NibAt w) (hy : BytesIn w y b) (ho : bytesOk b) (h8 : 8 ≤ b.length) (hl : b.length ≤ 140737488355328)
    (h : rdW (b.drop 4) ≠ crcF (b.take 4) ∨ rdW b = 0 ∨ 1048576 < rdW b) : Calls Tryz.prog 120 #[y] w (OnePost (some 11, []) w) := by
  obtain ⟨a, c, rfl, hc, hm, hx⟩ := id hy
  have n1 : ¬ b.length = 0 := by omega
  have n2 : ¬ (b.length : Int) < 8 := by omega
  have s1 : ∀ w, (Instr.slice 26 (.slice a b.length c) (some (.int .i64 4)) none none).run Tryz.prog w = .ok (.slice (cutA a c 4) (b.length - 4) (c - 4)) w := sliceBlo a b.length c 4 (by omega)
  have s2 : ∀ w, (Instr.slice 26 (.slice a b.length c) none (some (.int .i64 4)) none).run Tryz.prog w = .ok (.slice (cutA a c 0) 4 c) w := sliceBhi a b.length c 4 (by omega)
  have C0 := Lib.hid (readw_any _ b w hy ho (by omega))
  have C1 := Lib.hid (fun W (hw : BytesIn W (.slice (cutA a c 4) (b.length - 4) (c - 4)) (b.drop 4)) => readw_any _ (b.drop 4) W hw (ho.drop 4) (by rw [List.length_drop]; omega))
  have C2 := Lib.hid (fun W (hT : NibAt W) (hw : BytesIn W (.slice (cutA a c 0) 4 c) (b.take 4)) => sumc_any _ (b.take 4) W hT hw (ho.take 4) (by rw [List.length_take]; omega))
  have Y1 := Lib.hid (hy.from 4 (by omega))
  have Y2 := Lib.hid (hy.upto 4 (by omega))
  have HT := Lib.hid hT
  generalize rdW (b.drop 4) = s at *
  generalize crcF (b.take 4) = t at *
  generalize rdW b = n at *
  clear hT hy ho hx hm hc
  by_cases hst : s = t
  · subst hst
    have hst' : ((s : Int) != (s : Int)) = false := by simp
    by_cases hz : n = 0
    · subst hz
      clear h
      go_enter Tryz.func120, Tryz.ntmps120
      go_wp2_with (go_at_call 142; (with_reducible refine C0.out.mono ?_); rintro e w1 ⟨rfl, nd, rfl⟩; have HB := Lib.hid (below_drewN w nd); replace Y1 := Lib.hid (Y1.out.drewN nd); replace Y2 := Lib.hid (Y2.out.drewN nd); replace HT := Lib.hid (HT.out.drewN nd); generalize w.drewN nd = w1 at *)
      go_quiet ((first | (go_at_call 142; exact Calls.quiet_of (C1.out _ (Y1.out.drewN _))) | (go_at_call 125; exact quiet_left (C2.out _ (HT.out.drewN _) (Y2.out.drewN _)))))
      go_wp2
      go_ret3
      exact ⟨HB.out.trans ((below_drewN w1 nq).mono HB.out.size), rfl⟩
    · have hz' : ((n : Int) == 0) = false := by simp; omega
      have hg : decide ((1048576 : Int) < (n : Int)) = true := by simp; omega
      clear h
      go_enter Tryz.func120, Tryz.ntmps120
      go_wp2_with (go_at_call 142; (with_reducible refine C0.out.mono ?_); rintro e w1 ⟨rfl, nd, rfl⟩; have HB := Lib.hid (below_drewN w nd); replace Y1 := Lib.hid (Y1.out.drewN nd); replace Y2 := Lib.hid (Y2.out.drewN nd); replace HT := Lib.hid (HT.out.drewN nd); generalize w.drewN nd = w1 at *)
      go_quiet ((first | (go_at_call 142; exact Calls.quiet_of (C1.out _ (Y1.out.drewN _))) | (go_at_call 125; exact quiet_left (C2.out _ (HT.out.drewN _) (Y2.out.drewN _)))))
      go_wp2
      go_ret3
      exact ⟨HB.out.trans ((below_drewN w1 nq).mono HB.out.size), rfl⟩
  · have hst' : ((s : Int) != (t : Int)) = true := by simp; omega
    clear h
    go_enter Tryz.func120, Tryz.ntmps120
    go_wp2_with (go_at_call 142; (with_reducible refine C0.out.mono ?_); rintro e w1 ⟨rfl, nd, rfl⟩; have HB := Lib.hid (below_drewN w nd); replace Y1 := Lib.hid (Y1.out.drewN nd); replace Y2 := Lib.hid (Y2.out.drewN nd); replace HT := Lib.hid (HT.out.drewN nd); generalize w.drewN nd = w1 at *)
    go_quiet ((first | (go_at_call 142; exact Calls.quiet_of (C1.out _ (Y1.out.drewN _))) | (go_at_call 125; exact quiet_left (C2.out _ (HT.out.drewN _) (Y2.out.drewN _)))))
    go_wp2
    go_ret3
    exact ⟨HB.out.trans ((below_drewN w1 nq).mono HB.out.size), rfl⟩
theorem owns_base {w : World} {base base' n : Nat} {v : Value} {vs : List Value} (h : w.ownsRow base 5 1 v n vs) (hb : base' ≤ base) : w.ownsRow base' 5 1 v n vs := by
  obtain ⟨h1, h2⟩ := h
  refine ⟨h1, ?_⟩
  rcases h2 with h2 | ⟨g, c, cur, e1, e2, r⟩
  · exact .inl h2
  · exact .inr ⟨g, c, cur, e1, Nat.le_trans hb e2, r⟩
/-- what One knows behind its first tests -/
theorem one_rest (y : Value) (b : List Int) (w : World) (hT : NibAt w) (hy : BytesIn w y b) (ho : bytesOk b) (h8 : 8 ≤ b.length) (hl : b.length ≤ 140737488355328) (n : Nat) (hn : rdW b = n)
    (h1 : rdW (b.drop 4) = crcF (b.take 4)) (h2 : n ≠ 0) (h3 : n ≤ 1048576) (hs : b.length < n + 12) : Calls Tryz.prog 120 #[y] w (OnePost (some 12, []) w) := by
  obtain ⟨a, c, rfl, hc, hm, hx⟩ := id hy
  have n1 : ¬ b.length = 0 := by omega
  have n2 : ¬ (b.length : Int) < 8 := by omega
  have s1 : ∀ w, (Instr.slice 26 (.slice a b.length c) (some (.int .i64 4)) none none).run Tryz.prog w = .ok (.slice (cutA a c 4) (b.length - 4) (c - 4)) w := sliceBlo a b.length c 4 (by omega)
  have s2 : ∀ w, (Instr.slice 26 (.slice a b.length c) none (some (.int .i64 4)) none).run Tryz.prog w = .ok (.slice (cutA a c 0) 4 c) w := sliceBhi a b.length c 4 (by omega)
  have C0 := Lib.hid (readw_any _ b w hy ho (by omega))
  have C1 := Lib.hid (fun W (hw : BytesIn W (.slice (cutA a c 4) (b.length - 4) (c - 4)) (b.drop 4)) => readw_any _ (b.drop 4) W hw (ho.drop 4) (by rw [List.length_drop]; omega))
  have C2 := Lib.hid (fun W (hT : NibAt W) (hw : BytesIn W (.slice (cutA a c 0) 4 c) (b.take 4)) => sumc_any _ (b.take 4) W hT hw (ho.take 4) (by rw [List.length_take]; omega))
  have Y1 := Lib.hid (hy.from 4 (by omega))
  have Y2 := Lib.hid (hy.upto 4 (by omega))
  have HT := Lib.hid hT
  rw [h1] at C1
  rw [hn] at C0
  have hz' : ((n : Int) == 0) = false := by simp; omega
  have hg : decide ((1048576 : Int) < (n : Int)) = false := by simp; omega
  have hst' : ((crcF (b.take 4) : Int) != (crcF (b.take 4) : Int)) = false := by simp
  generalize crcF (b.take 4) = t at *
  have hlt : (b.length : Int) < (n : Int) + 12 := by omega
  clear hT hy ho hx h1 hn hs
  go_enter Tryz.func120, Tryz.ntmps120
  go_wp2_with (go_at_call 142; (with_reducible refine C0.out.mono ?_); rintro e w1 ⟨rfl, nd, rfl⟩; have HB := Lib.hid (below_drewN w nd); replace Y1 := Lib.hid (Y1.out.drewN nd); replace Y2 := Lib.hid (Y2.out.drewN nd); replace HT := Lib.hid (HT.out.drewN nd); generalize w.drewN nd = w1 at *)
  go_quiet ((first | (go_at_call 142; exact Calls.quiet_of (C1.out _ (Y1.out.drewN _))) | (go_at_call 125; exact quiet_left (C2.out _ (HT.out.drewN _) (Y2.out.drewN _)))))
  go_wp2
  go_ret3
  exact ⟨HB.out.trans ((below_drewN w1 nq).mono HB.out.size), rfl⟩
theorem one_fit (y : Value) (b : List Int) (w : World) (hT : NibAt w) (hy : BytesIn w y b) (ho : bytesOk b) (h8 : 8 ≤ b.length) (hl : b.length ≤ 140737488355328) (n : Nat) (hn : rdW b = n)
    (h1 : rdW (b.drop 4) = crcF (b.take 4)) (h2 : n ≠ 0) (h3 : n ≤ 1048576) (hs : n + 12 ≤ b.length) (p : List Int) (hp : (b.take (n + 8)).drop 8 = p) (h4 : rdW (b.drop (n + 8)) = crcF p) : Calls Tryz.prog 120 #[y] w (OnePost (none, p) w) := by
  obtain ⟨a, c, rfl, hc, hm, hx⟩ := id hy
  have n1 : ¬ b.length = 0 := by omega
  have n2 : ¬ (b.length : Int) < 8 := by omega
  have s1 : ∀ w, (Instr.slice 26 (.slice a b.length c) (some (.int .i64 4)) none none).run Tryz.prog w = .ok (.slice (cutA a c 4) (b.length - 4) (c - 4)) w := sliceBlo a b.length c 4 (by omega)
  have s2 : ∀ w, (Instr.slice 26 (.slice a b.length c) none (some (.int .i64 4)) none).run Tryz.prog w = .ok (.slice (cutA a c 0) 4 c) w := sliceBhi a b.length c 4 (by omega)
  have s3 : ∀ w, (Instr.slice 26 (.slice a b.length c) (some (.int .i64 8)) (some (.int .i64 ((n : Int) + 12 - 4))) none).run Tryz.prog w = .ok (.slice (cutA a c 8) n (c - 8)) w := fun w => by rw [show (n : Int) + 12 - 4 = ((n + 8 : Nat) : Int) by omega]; exact sliceBlh a b.length c 8 (n + 8) (by omega) (by omega) w
  have s4 : ∀ w, (Instr.slice 26 (.slice a b.length c) (some (.int .i64 ((n : Int) + 12 - 4))) none none).run Tryz.prog w = .ok (.slice (cutA a c (n + 8)) (b.length - (n + 8)) (c - (n + 8))) w := fun w => by rw [show (n : Int) + 12 - 4 = ((n + 8 : Nat) : Int) by omega]; exact sliceBlo a b.length c (n + 8) (by omega) w
  have C0 := Lib.hid (readw_any _ b w hy ho (by omega))
  have C1 := Lib.hid (fun W (hw : BytesIn W (.slice (cutA a c 4) (b.length - 4) (c - 4)) (b.drop 4)) => readw_any _ (b.drop 4) W hw (ho.drop 4) (by rw [List.length_drop]; omega))
  have C2 := Lib.hid (fun W (hT : NibAt W) (hw : BytesIn W (.slice (cutA a c 0) 4 c) (b.take 4)) => sumc_any _ (b.take 4) W hT hw (ho.take 4) (by rw [List.length_take]; omega))
  have Y1 := Lib.hid (hy.from 4 (by omega))
  have Y2 := Lib.hid (hy.upto 4 (by omega))
  have HT := Lib.hid hT
  rw [h1] at C1
  rw [hn] at C0
  have Y3 : BytesIn w (.slice (cutA a c 8) n (c - 8)) ((b.take (n + 8)).drop 8) := hy.cut 8 (n + 8) (by omega) (by omega)
  have hpl : p.length = n := by rw [← hp, List.length_drop, List.length_take]; omega
  have hpo : bytesOk p := by rw [← hp]; exact (ho.take _).drop _
  have Y4 := Lib.hid (hy.from (n + 8) (by omega))
  have C3 := Lib.hid (fun W (hw : BytesIn W (.slice (cutA a c (n + 8)) (b.length - (n + 8)) (c - (n + 8))) (b.drop (n + 8))) => readw_any _ (b.drop (n + 8)) W hw (ho.drop _) (by rw [List.length_drop]; omega))
  rw [hp] at Y3
  rw [h4] at C3
  have HP := Lib.hid (And.intro hpl hpo)
  replace Y3 := Lib.hid Y3
  have hz' : ((n : Int) == 0) = false := by simp; omega
  have hg : decide ((1048576 : Int) < (n : Int)) = false := by simp; omega
  have hst' : ((crcF (b.take 4) : Int) != (crcF (b.take 4) : Int)) = false := by simp
  have hlt : ¬ (b.length : Int) < (n : Int) + 12 := by omega
  generalize crcF (b.take 4) = t at *
  clear hT hy ho hx h1 hn hp h4 hpl hpo
  go_enter Tryz.func120, Tryz.ntmps120
  go_wp2_with (go_at_call 142; (with_reducible refine C0.out.mono ?_); rintro e w1 ⟨rfl, nd, rfl⟩; have HB := Lib.hid (below_drewN w nd); replace Y1 := Lib.hid (Y1.out.drewN nd); replace Y2 := Lib.hid (Y2.out.drewN nd); replace Y3 := Lib.hid (Y3.out.drewN nd); replace Y4 := Lib.hid (Y4.out.drewN nd); replace HT := Lib.hid (HT.out.drewN nd); generalize w.drewN nd = w1 at *)
  go_quiet ((first | (go_at_call 142; exact Calls.quiet_of (C1.out _ (Y1.out.drewN _))) | (go_at_call 125; exact quiet_left (C2.out _ (HT.out.drewN _) (Y2.out.drewN _)))))
  have HB2 := Lib.hid (HB.out.trans ((below_drewN w1 nq).mono HB.out.size))
  replace Y3 := Lib.hid (Y3.out.drewN nq)
  replace Y4 := Lib.hid (Y4.out.drewN nq)
  replace HT := Lib.hid (HT.out.drewN nq)
  clear Y1 Y2 C1 C2 C0 s1 s2 hst' HB
  generalize w1.drewN nq = w2 at *
  go_wp2_with (first
    | (go_at_call 142; (with_reducible refine (C3.out _ Y4.out).mono ?_); rintro e w3 ⟨rfl, nd, rfl⟩; replace HB2 := Lib.hid (HB2.out.trans ((below_drewN w2 nd).mono HB2.out.size)); replace Y3 := Lib.hid (Y3.out.drewN nd); replace HT := Lib.hid (HT.out.drewN nd); clear Y4 C3; generalize w2.drewN nd = w3 at *)
    | (go_at_call 125; (with_reducible refine (sumc_any _ p w3 HT.out Y3.out HP.out.2 (by rw [HP.out.1]; omega)).mono ?_); rintro e w4 ⟨rfl, rfl⟩)
    | (go_at_call 106; (with_reducible refine (clone_any _ p w3 Y3.out (by rw [HP.out.1]; omega)).mono ?_); rintro e w4 ⟨v', rfl, ho4, hb4⟩; have H4 := Lib.hid (owns_base ho4 HB2.out.size); have HB4 := Lib.hid (HB2.out.trans (hb4.mono HB2.out.size)); clear ho4 hb4))
  go_ret3
  exact ⟨HB4.out, v', by rw [HP.out.1]; rfl, H4.out⟩
theorem one_spoilt (y : Value) (b : List Int) (w : World) (hT : NibAt w) (hy : BytesIn w y b) (ho : bytesOk b) (h8 : 8 ≤ b.length) (hl : b.length ≤ 140737488355328) (n : Nat) (hn : rdW b = n)
    (h1 : rdW (b.drop 4) = crcF (b.take 4)) (h2 : n ≠ 0) (h3 : n ≤ 1048576) (hs : n + 12 ≤ b.length) (p : List Int) (hp : (b.take (n + 8)).drop 8 = p) (h4 : rdW (b.drop (n + 8)) ≠ crcF p) : Calls Tryz.prog 120 #[y] w (OnePost (some 11, []) w) := by
  obtain ⟨a, c, rfl, hc, hm, hx⟩ := id hy
  have n1 : ¬ b.length = 0 := by omega
  have n2 : ¬ (b.length : Int) < 8 := by omega
  have s1 : ∀ w, (Instr.slice 26 (.slice a b.length c) (some (.int .i64 4)) none none).run Tryz.prog w = .ok (.slice (cutA a c 4) (b.length - 4) (c - 4)) w := sliceBlo a b.length c 4 (by omega)
  have s2 : ∀ w, (Instr.slice 26 (.slice a b.length c) none (some (.int .i64 4)) none).run Tryz.prog w = .ok (.slice (cutA a c 0) 4 c) w := sliceBhi a b.length c 4 (by omega)
  have s3 : ∀ w, (Instr.slice 26 (.slice a b.length c) (some (.int .i64 8)) (some (.int .i64 ((n : Int) + 12 - 4))) none).run Tryz.prog w = .ok (.slice (cutA a c 8) n (c - 8)) w := fun w => by rw [show (n : Int) + 12 - 4 = ((n + 8 : Nat) : Int) by omega]; exact sliceBlh a b.length c 8 (n + 8) (by omega) (by omega) w
  have s4 : ∀ w, (Instr.slice 26 (.slice a b.length c) (some (.int .i64 ((n : Int) + 12 - 4))) none none).run Tryz.prog w = .ok (.slice (cutA a c (n + 8)) (b.length - (n + 8)) (c - (n + 8))) w := fun w => by rw [show (n : Int) + 12 - 4 = ((n + 8 : Nat) : Int) by omega]; exact sliceBlo a b.length c (n + 8) (by omega) w
  have C0 := Lib.hid (readw_any _ b w hy ho (by omega))
  have C1 := Lib.hid (fun W (hw : BytesIn W (.slice (cutA a c 4) (b.length - 4) (c - 4)) (b.drop 4)) => readw_any _ (b.drop 4) W hw (ho.drop 4) (by rw [List.length_drop]; omega))
  have C2 := Lib.hid (fun W (hT : NibAt W) (hw : BytesIn W (.slice (cutA a c 0) 4 c) (b.take 4)) => sumc_any _ (b.take 4) W hT hw (ho.take 4) (by rw [List.length_take]; omega))
  have Y1 := Lib.hid (hy.from 4 (by omega))
  have Y2 := Lib.hid (hy.upto 4 (by omega))
  have HT := Lib.hid hT
  rw [h1] at C1
  rw [hn] at C0
  have Y3 : BytesIn w (.slice (cutA a c 8) n (c - 8)) ((b.take (n + 8)).drop 8) := hy.cut 8 (n + 8) (by omega) (by omega)
  have hpl : p.length = n := by rw [← hp, List.length_drop, List.length_take]; omega
  have hpo : bytesOk p := by rw [← hp]; exact (ho.take _).drop _
  have Y4 := Lib.hid (hy.from (n + 8) (by omega))
  have C3 := Lib.hid (fun W (hw : BytesIn W (.slice (cutA a c (n + 8)) (b.length - (n + 8)) (c - (n + 8))) (b.drop (n + 8))) => readw_any _ (b.drop (n + 8)) W hw (ho.drop _) (by rw [List.length_drop]; omega))
  rw [hp] at Y3
  have hne : ((rdW (b.drop (n + 8)) : Int) != (crcF p : Int)) = true := by simp; omega
  have HS := Lib.hid (fun W (hT : NibAt W) (hw : BytesIn W (.slice (cutA a c 8) n (c - 8)) p) => sumc_any _ p W hT hw hpo (by rw [hpl]; omega))
  generalize crcF p = v at *
  generalize rdW (b.drop (n + 8)) = u at *
  have HP := Lib.hid (And.intro hpl hpo)
  replace Y3 := Lib.hid Y3
  have hz' : ((n : Int) == 0) = false := by simp; omega
  have hg : decide ((1048576 : Int) < (n : Int)) = false := by simp; omega
  have hst' : ((crcF (b.take 4) : Int) != (crcF (b.take 4) : Int)) = false := by simp
  have hlt : ¬ (b.length : Int) < (n : Int) + 12 := by omega
  generalize crcF (b.take 4) = t at *
  clear hT hy ho hx h1 hn hp h4 hpl hpo
  go_enter Tryz.func120, Tryz.ntmps120
  go_wp2_with (go_at_call 142; (with_reducible refine C0.out.mono ?_); rintro e w1 ⟨rfl, nd, rfl⟩; have HB := Lib.hid (below_drewN w nd); replace Y1 := Lib.hid (Y1.out.drewN nd); replace Y2 := Lib.hid (Y2.out.drewN nd); replace Y3 := Lib.hid (Y3.out.drewN nd); replace Y4 := Lib.hid (Y4.out.drewN nd); replace HT := Lib.hid (HT.out.drewN nd); generalize w.drewN nd = w1 at *)
  go_quiet ((first | (go_at_call 142; exact Calls.quiet_of (C1.out _ (Y1.out.drewN _))) | (go_at_call 125; exact quiet_left (C2.out _ (HT.out.drewN _) (Y2.out.drewN _)))))
  have HB2 := Lib.hid (HB.out.trans ((below_drewN w1 nq).mono HB.out.size))
  replace Y3 := Lib.hid (Y3.out.drewN nq)
  replace Y4 := Lib.hid (Y4.out.drewN nq)
  replace HT := Lib.hid (HT.out.drewN nq)
  clear Y1 Y2 C1 C2 C0 s1 s2 hst' HB
  generalize w1.drewN nq = w2 at *
  go_wp2_with (first
    | (go_at_call 142; (with_reducible refine (C3.out _ Y4.out).mono ?_); rintro e w3 ⟨rfl, nd, rfl⟩; replace HB2 := Lib.hid (HB2.out.trans ((below_drewN w2 nd).mono HB2.out.size)); replace Y3 := Lib.hid (Y3.out.drewN nd); replace HT := Lib.hid (HT.out.drewN nd); clear Y4 C3; generalize w2.drewN nd = w3 at *)
    | (go_at_call 125; (with_reducible refine (HS.out w3 HT.out Y3.out).mono ?_); rintro e w4 ⟨rfl, rfl⟩))
  go_ret3
  exact ⟨HB2.out, rfl⟩
theorem one_any (y : Value) (b : List Int) (w : World) (hT : NibAt w) (hy : BytesIn w y b) (ho : bytesOk b) (hl : b.length ≤ 140737488355328) : Calls Tryz.prog 120 #[y] w (OnePost (oneF b) w) := by
  unfold oneF
  split
  · next h => exact one_empty y b w hy h
  · next h =>
    split
    · next h8 => exact one_short y b w hy h h8
    · next h8 =>
      split
      · next h1 => exact one_head y b w hT hy ho (by omega) hl h1
      · next h1 =>
        split
        · next h2 => exact one_rest y b w hT hy ho (by omega) hl _ rfl (by omega) (by omega) (by omega) h2
        · next h2 =>
          split
          · next h3 => exact one_spoilt y b w hT hy ho (by omega) hl _ rfl (by omega) (by omega) (by omega) (by omega) _ rfl h3
          · next h3 => exact one_fit y b w hT hy ho (by omega) hl _ rfl (by omega) (by omega) (by omega) (by omega) _ rfl (by omega)
end Go.Proofs.YtilpohdidekenaaGreatDoor
namespace Go.Proofs.YtilpohdidekenaaGreatDoor
set_option linter.unusedVariables false
set_option linter.unusedSimpArgs false
open Go.RowKit Go.Extern.Stop Go.Stop Go.Extern
set_option maxRecDepth 100000
theorem isTypeOf (v : Value) (w : World) : (ReflectliteType.typeOf #[.iface 87 v]).run Tryz.prog w = .ok (.iface 180 (.agg #[.pointer (some ⟨4, 87, none⟩)])) w := by kernel_rfl
theorem isComparable (w : World) : ((ReflectliteType.method fun t => do Rtype.noPackHeld "Comparable" t; pure (.bool (← typeInfo t).comparable)) #[.agg #[.pointer (some ⟨4, 87, none⟩)]]).run Tryz.prog w = .ok (.bool true) w := by kernel_rfl
theorem isMethodComparable (m : Nat) (v : Value) (w : World) : (Go.method (m + 1) 180 v "Comparable").run Tryz.prog w = .ok (188, v) w := by kernel_rfl
theorem isCompCall (w : World) : (callFunc 188 #[.agg #[.pointer (some ⟨4, 87, none⟩)]]).run Tryz.prog w = .ok (.value (.bool true)) w := by
  rw [@run_callFunc_extern Tryz.prog 188 _ (ReflectliteType.method fun t => do Rtype.noPackHeld "Comparable" t; pure (.bool (← typeInfo t).comparable)) Tryz.func188 (by kernel_rfl) (by kernel_rfl) (by kernel_rfl) (by kernel_rfl), isComparable]
  rfl
theorem isComp : (Tryz.prog.info? 87).map (·.comparable) = some true := by kernel_rfl
theorem noIsE (v : Value) (xT : TypeId) (w : World) : (Instr.typeAssert (.iface 87 v) xT 218 true).run Tryz.prog w = .ok (.tuple #[.nilIface, .bool false]) w := run_typeAssert_lacksB Tryz.underlying218 (by kernel_rfl) (by kernel_rfl) v xT w
theorem noUnwrapE (v : Value) (xT : TypeId) (w : World) : (Instr.typeAssert (.iface 87 v) xT 188 true).run Tryz.prog w = .ok (.tuple #[.nilIface, .bool false]) w := run_typeAssert_lacksB Tryz.underlying188 (by kernel_rfl) (by kernel_rfl) v xT w
theorem noUnwrapsE (v : Value) (xT : TypeId) (w : World) : (Instr.typeAssert (.iface 87 v) xT 189 true).run Tryz.prog w = .ok (.tuple #[.nilIface, .bool false]) w := run_typeAssert_lacksB Tryz.underlying189 (by kernel_rfl) (by kernel_rfl) v xT w
theorem is_nil (k : Int) (w : World) :
    Calls Tryz.prog 77 #[.nilIface, .iface 87 (.int .i64 k)] w fun e w' => e = .returned (.bool false) ∧ w = w' := by
  have hn := run_eql_iface_nil_left (P := Tryz.prog) w 87 (.int .i64 k) Tryz.underlying30
  go_enter Tryz.func77, Tryz.ntmps77
  go_wp2
  go_ret
  exact ⟨rfl, rfl⟩
theorem is_num (n k : Int) (w : World) :
    Calls Tryz.prog 77 #[.iface 87 (.int .i64 n), .iface 87 (.int .i64 k)] w fun e w' => e = .returned (.bool (n == k)) ∧ w = w' := by
  have h8 := @run_callFunc_extern Tryz.prog 112 _ ReflectliteType.typeOf Tryz.func112 (by kernel_rfl) (by kernel_rfl) (by kernel_rfl) (by kernel_rfl)
  have h32 := isCompCall
  have tT := isTypeOf
  have mR := isMethodComparable
  have nE := noIsE
  have uE := noUnwrapE
  have vE := noUnwrapsE
  have heq := Lib.run_eql_iface_int (P := Tryz.prog) w (k := .i64) n k Tryz.underlying30 isComp Tryz.underlying87
  cases hb : (n == k)
  · rw [hb] at heq
    go_enter Tryz.func77, Tryz.ntmps77
    go_wp2
    refine wp_loop_rounds 1 ?_
    rw [rounds_succ]
    go_wp2
    go_ret
    exact ⟨rfl, rfl⟩
  · rw [hb] at heq
    go_enter Tryz.func77, Tryz.ntmps77
    go_wp2
    refine wp_loop_rounds 1 ?_
    rw [rounds_succ]
    go_wp2
    go_ret
    exact ⟨rfl, rfl⟩
end Go.Proofs.YtilpohdidekenaaGreatDoor
namespace Go.Proofs.YtilpohdidekenaaGreatDoor
set_option linter.unusedVariables false
set_option linter.unusedSimpArgs false
open Go.RowKit
set_option maxRecDepth 100000
theorem ext0 (x y z : Value) (w : World) : (Instr.extract (.tuple #[x, y, z]) 0).run Tryz.prog w = .ok x w := rfl
theorem ext1 (x y z : Value) (w : World) : (Instr.extract (.tuple #[x, y, z]) 1).run Tryz.prog w = .ok y w := rfl
theorem ext2 (x y z : Value) (w : World) : (Instr.extract (.tuple #[x, y, z]) 2).run Tryz.prog w = .ok z w := rfl
/-- what bytes hold: payloads, how many bytes, why no more -/
def scanG : Nat → List Int → List (List Int) × Nat × Option Nat
  | 0, _ => ([], 0, none)
  | f + 1, b => match oneF b with
    | (none, p) => (p :: (scanG f (b.drop (p.length + 12))).1, p.length + 12 + (scanG f (b.drop (p.length + 12))).2.1, (scanG f (b.drop (p.length + 12))).2.2)
    | (some k, _) => ([], 0, if k = 8 then none else some k)
def scanF (b : List Int) : List (List Int) × Nat × Option Nat := scanG b.length b
theorem oneF_cases (b : List Int) : (∃ k, oneF b = (some k, []) ∧ (k = 8 ↔ b.length = 0) ∧ (k = 8 ∨ k = 11 ∨ k = 12)) ∨ (∃ p, oneF b = (none, p) ∧ p.length + 12 ≤ b.length ∧ 0 < p.length ∧ p.length ≤ 1048576) := by
  unfold oneF
  split
  · next h => exact .inl ⟨8, rfl, by simp [h], by simp⟩
  · next h =>
    split
    · exact .inl ⟨12, rfl, by simp [h], by simp⟩
    · split
      · exact .inl ⟨11, rfl, by simp [h], by simp⟩
      · next h1 =>
        split
        · exact .inl ⟨12, rfl, by simp [h], by simp⟩
        · split
          · exact .inl ⟨11, rfl, by simp [h], by simp⟩
          · refine .inr ⟨_, rfl, ?_, ?_, ?_⟩ <;> rw [List.length_drop, List.length_take] <;> omega
/-- a slice of slices of bytes, each in a block of its own -/
def ListsIn (w : World) (B : Nat) (own : Option Nat) (vs : List Value) (ps : List (List Int)) : Prop :=
  vs.length = ps.length ∧ ∀ (i : Nat) (v : Value) (p : List Int), vs[i]? = some v → ps[i]? = some p → BytesIn w v p ∧ ∀ k, v.ownBlock = some k → B ≤ k ∧ some k ≠ own ∧ k < w.heap.size
theorem ListsIn.nil (w : World) (B : Nat) (own : Option Nat) : ListsIn w B own [] [] := ⟨rfl, fun i v p h => by simp at h⟩
theorem BytesIn.grown {w w' : World} {own : Option Nat} {v : Value} {p : List Int} (h : BytesIn w v p) (hg : w.grownBy w' own) (hne : ∀ k, v.ownBlock = some k → some k ≠ own) : BytesIn w' v p := by
  obtain ⟨a, c, rfl, hc, hm, hx⟩ := h
  refine ⟨a, c, rfl, hc, hm, ?_⟩
  rcases hx with hx | ⟨ab, ao, rfl, hx⟩
  · exact .inl hx
  · exact .inr ⟨ab, ao, rfl, fun i y hi => (World.cell?_of_block (hg.block ab (World.block_lt_of_cell? w _ (hx i y hi)) (hne ab rfl))).trans (hx i y hi)⟩
theorem ListsIn.below {w w' : World} {B : Nat} {own : Option Nat} {vs : List Value} {ps : List (List Int)} (h : ListsIn w B own vs ps) (hb : Below w.heap.size w w') : ListsIn w' B own vs ps :=
  ⟨h.1, fun i v p hv hp => ⟨(h.2 i v p hv hp).1.below hb, fun k hk => ⟨((h.2 i v p hv hp).2 k hk).1, ((h.2 i v p hv hp).2 k hk).2.1, Nat.lt_of_lt_of_le ((h.2 i v p hv hp).2 k hk).2.2 hb.size⟩⟩⟩
theorem infoBs : (Tryz.prog.info? 26).map (fun i => (i.zero, i.size, i.bytes)) = some (some (.slice none 0 0), 1, 24) := by kernel_rfl
/-- append of one slice -/
theorem wpList_append_slice {w : World} {ops : Array Oper} {rest : List Oper} {o : Oper} {a : Act} {Q : Exit → Act → World → Prop} (hgd : o.guard = none) (s x : Operand)
    (ho : o.op = .call { callee := .builtin .append, args := #[s, x], argTypes := #[142, 142] }) (hty : o.type = 142)
    (base : Nat) (v : Value) (vs : List Value) (hs : a.eval s = v) (hown : w.ownsRow base 26 1 v vs.length vs) (b : Addr) (y : Value) (hx : a.eval x = .slice (some b) 1 1) (hy : w.cell? b = some y) (hy1 : y.oneCell' = true) (hl : vs.length < 1099511627776) (hb : base ≤ w.heap.size)
    (h : ∀ v' w', w'.ownsRow base 26 1 v' (vs ++ [y]).length (vs ++ [y]) → w.grownBy w' v.ownBlock → (v'.ownBlock = v.ownBlock ∨ v'.ownBlock = some w.heap.size) → wpList Tryz.prog ops Q rest (a.put o.dst v') w') : wpList Tryz.prog ops Q (o :: rest) a w := by
  refine wpList_plain hgd fun K hK => ?_
  obtain ⟨i0, hi, hz0, hz1, hz2⟩ := info_parts infoBs
  obtain ⟨v', w', hr, h1, h2, _, h4⟩ := run_append_own_at w base 142 142 26 i0 (.slice none 0 0) 1 24 Tryz.underlying142 hi hz0 hz1 hz2 rfl (by decide) v vs.length vs hown b 1 1 [y] rfl (fun j u hu => by
      match j, hu with
      | 0, hu => cases hu; rw [show b.add 0 = b by simp [Addr.add]]; exact hy) (fun u hu => by simp at hu; rw [hu]; exact hy1) (by unfold maxLen; omega) (by omega) hb
  unfold Oper.wp execOp
  simp only [ho, hty, resolve, invoke, builtin, Sem.run_bind, Sem.run_pure, Result.andThen_ok, List.map_toArray, List.map_cons, List.map_nil, hs, hx, hr]
  exact hK _ _ (h v' w' (by rw [List.length_append]; exact h1) h2 h4)
structure ScanSt (b : List Int) (w : World) (v : Value) (k : Nat) (f : Nat) (vs : List Value) (ps : List (List Int)) (wr : World) : Prop where
  fuel : b.length - k ≤ f
  le : k ≤ b.length
  eq : scanF b = (ps ++ (scanG f (b.drop k)).1, k + (scanG f (b.drop k)).2.1, (scanG f (b.drop k)).2.2)
  own : wr.ownsRow w.heap.size 26 1 v vs.length vs
  lists : ListsIn wr w.heap.size v.ownBlock vs ps
  few : vs.length ≤ k
  below : Below w.heap.size w wr
def ScanAt (b : List Int) (w : World) (v : Value) (k : Nat) (wr : World) : Prop := ∃ f vs ps, ScanSt b w v k f vs ps wr
def ScanPost (b : List Int) (w : World) (e : Ending) (w' : World) : Prop :=
  ∃ v vs, e = .returned (.tuple #[v, .int .i64 (((scanF b).2.1 : Nat) : Int), errV (scanF b).2.2]) ∧ w'.ownsRow w.heap.size 26 1 v vs.length vs ∧ ListsIn w' w.heap.size v.ownBlock vs (scanF b).1 ∧ Below w.heap.size w w'
theorem ScanAt.stop {b : List Int} {w wr w' : World} {v : Value} {k : Nat} {x : Nat} (h : ScanAt b w v k wr) (hx : oneF (b.drop k) = (some x, [])) (hb : Below wr.heap.size wr w') :
    ScanPost b w (.returned (.tuple #[v, .int .i64 (k : Int), errV (if x = 8 then none else some x)])) w' := by
  obtain ⟨f, vs, ps, h⟩ := h
  have hg : scanG f (b.drop k) = ([], 0, if x = 8 then none else some x) := by
    cases f with
    | zero =>
      have h0 : (b.drop k).length = 0 := by rw [List.length_drop]; have := h.fuel; omega
      rcases oneF_cases (b.drop k) with ⟨y, hy, h8, _⟩ | ⟨p, hp, hl, _⟩
      · rw [hx] at hy
        obtain rfl : x = y := by simpa using hy
        rw [if_pos (h8.2 h0)]; rfl
      · omega
    | succ f => simp only [scanG, hx]
  have he := h.eq
  rw [hg] at he
  simp only [List.append_nil, Nat.add_zero] at he
  refine ⟨v, vs, by rw [he], h.own.kept (row := none) ⟨hb.os, hb.tape, hb.output, hb.size, fun k hk _ => hb.block k hk⟩ (by cases v.ownBlock <;> simp), ?_, h.below.trans (hb.mono h.below.size)⟩
  rw [he]
  exact h.lists.below hb
theorem kept_below {w w' : World} {B e n : Nat} {v : Value} {vs : List Value} (h : w.ownsRow B e 1 v n vs) (hb : Below w.heap.size w w') : w'.ownsRow B e 1 v n vs :=
  h.kept (row := none) ⟨hb.os, hb.tape, hb.output, hb.size, fun k hk _ => hb.block k hk⟩ (by cases v.ownBlock <;> simp)
/-- one record more -/
theorem ScanAt.next {b : List Int} {w wr w1 w2 w3 : World} {v y v' : Value} {k : Nat} {p : List Int} {vs : List Value} {f : Nat} {ps : List (List Int)} (h : ScanSt b w v k f vs ps wr) (hx : oneF (b.drop k) = (none, p)) (hb : Below wr.heap.size wr w1) (hy : w1.ownsRow wr.heap.size 5 1 y p.length (byteVals p))
    (hb2 : Below w1.heap.size w1 w2) (hg : w2.grownBy w3 v.ownBlock) (hof : v'.ownBlock = v.ownBlock ∨ v'.ownBlock = some w2.heap.size) (ho : w3.ownsRow w.heap.size 26 1 v' (vs ++ [y]).length (vs ++ [y])) : ScanAt b w v' (k + (p.length + 12)) w3 := by
  obtain ⟨hl12, hl0, hlm⟩ : p.length + 12 ≤ (b.drop k).length ∧ 0 < p.length ∧ p.length ≤ 1048576 := by
    rcases oneF_cases (b.drop k) with ⟨x, h1, _⟩ | ⟨q, h1, h2⟩
    · rw [hx] at h1; simp at h1
    · rw [hx] at h1
      obtain rfl : p = q := by simpa using h1
      exact h2
  rw [List.length_drop] at hl12
  have hfu := h.fuel
  obtain ⟨f, rfl⟩ : ∃ g, f = g + 1 := ⟨f - 1, by omega⟩
  have he := h.eq
  have hs : scanG (f + 1) (b.drop k) = (p :: (scanG f (b.drop (k + (p.length + 12)))).1, p.length + 12 + (scanG f (b.drop (k + (p.length + 12)))).2.1, (scanG f (b.drop (k + (p.length + 12)))).2.2) := by
    simp only [scanG, hx, List.drop_drop]
  rw [hs] at he
  have hw12 : Below wr.heap.size wr w2 := hb.trans (hb2.mono hb.size)
  have hle := h.below.size
  refine ⟨f, vs ++ [y], ps ++ [p], by omega, by omega, ?_, ho, ⟨by simp [h.lists.1], fun i u q hu hq => ?_⟩, by have := h.few; simp; omega, (h.below.trans (hw12.mono h.below.size)).grown hg (Nat.le_trans h.below.size hw12.size) (fun j hj => (h.own.lt j hj).1)⟩
  · rw [he]
    refine Prod.ext (by simp) (Prod.ext ?_ rfl)
    show k + (p.length + 12 + _) = k + (p.length + 12) + _
    omega
  · rcases Nat.lt_or_ge i vs.length with hi | hi
    · rw [List.getElem?_append_left hi] at hu
      rw [List.getElem?_append_left (by rw [← h.lists.1]; exact hi)] at hq
      obtain ⟨h1, h2⟩ := h.lists.2 i u q hu hq
      refine ⟨(h1.below hw12).grown hg fun j hj => (h2 j hj).2.1, fun j hj => ⟨(h2 j hj).1, ?_, Nat.lt_of_lt_of_le (h2 j hj).2.2 (Nat.le_trans hw12.size hg.size)⟩⟩
      rcases hof with e | e
      · rw [e]; exact (h2 j hj).2.1
      · rw [e]; intro e; injection e with e; have := (h2 j hj).2.2; have := hw12.size; omega
    · rw [List.getElem?_append_right hi] at hu
      rw [List.getElem?_append_right (by rw [← h.lists.1]; exact hi), ← h.lists.1] at hq
      obtain ⟨rfl, h0⟩ : u = y ∧ i - vs.length = 0 := by
        rcases Nat.eq_zero_or_pos (i - vs.length) with e | e
        · rw [e] at hu; simp at hu; exact ⟨hu.symm, e⟩
        · rw [List.getElem?_eq_none (by simp; omega)] at hu; cases hu
      rw [h0] at hq
      obtain rfl : p = q := by simpa using hq
      have hlt := fun j hj => hy.lt j hj
      have hne : ∀ j, u.ownBlock = some j → some j ≠ v.ownBlock := fun j hj e => by
        have h1 := h.own.lt j e.symm
        have h2 := hlt j hj
        omega
      refine ⟨((owns_in hy (by unfold maxLen; omega)).below hb2).grown hg hne, fun j hj => ⟨Nat.le_trans hle (hlt j hj).1, ?_, Nat.lt_of_lt_of_le (hlt j hj).2 (Nat.le_trans hb2.size hg.size)⟩⟩
      rcases hof with e | e
      · rw [e]; exact hne j hj
      · rw [e]; intro e; injection e with e; have := (hlt j hj).2; have := hb2.size; omega
theorem slice_one (y : Value) (ys : List Int) (w : World) (B n : Nat) (h : w.ownsRow B 5 1 y n (byteVals ys)) : y.oneCell' = true ∧ ∃ a c, y = .slice a n c := by
  obtain ⟨a, c, rfl⟩ := owns_wide h
  exact ⟨rfl, a, c, rfl⟩
theorem one_bad (x : Nat) (y : Value) (w : World) (h : Calls Tryz.prog 120 #[y] w (OnePost (some x, []) w)) :
    Calls Tryz.prog 120 #[y] w fun e w' => e = .returned (.tuple #[.slice none 0 0, .int .i64 0, .iface 87 (.int .i64 (x : Int))]) ∧ Below w.heap.size w w' := h.mono fun _ _ h => ⟨h.2, h.1⟩
theorem one_good (p : List Int) (y : Value) (w : World) (h : Calls Tryz.prog 120 #[y] w (OnePost (none, p) w)) :
    Calls Tryz.prog 120 #[y] w fun e w' => ∃ v' a c, v' = .slice a p.length c ∧ e = .returned (.tuple #[v', .int .i64 ((p.length : Int) + 12), .nilIface]) ∧ w'.ownsRow w.heap.size 5 1 v' p.length (byteVals p) ∧ Below w.heap.size w w' := h.mono fun _ _ ⟨hb, v', he, ho⟩ => by
  obtain ⟨a, c, rfl⟩ := owns_wide ho
  exact ⟨_, a, c, rfl, he, ho, hb⟩
set_option maxHeartbeats 2000000 in
theorem scan_any (y : Value) (b : List Int) (w : World) (hT : NibAt w) (hy : BytesIn w y b) (ho : bytesOk b) (hl : b.length < 1099511627776) : Calls Tryz.prog 78 #[y] w (ScanPost b w) := by
  obtain ⟨a, c, rfl, hc, hm, hx⟩ := id hy
  have HT := Lib.hid hT
  have HY := Lib.hid hy
  have HO := Lib.hid ho
  have HL := Lib.hid hl
  have HS0 := Lib.hid (show ScanAt b w (.slice none 0 0) 0 w from ⟨b.length, [], [], by omega, by omega, by rw [List.drop_zero]; simp [scanF], World.ownsRow_nil _ _ _ _, ListsIn.nil _ _ _, Nat.le_refl _, Below.refl _ _⟩)
  clear hT hy ho hl hx hm hc
  go_enter Tryz.func78, Tryz.ntmps78
  go_wp2_with (fail)
  go_loopw [5, 6] (fun v i wr => ∃ k : Nat, k ≤ b.length ∧ i = .int .i64 k ∧ Hid (ScanAt b w v k wr)) (fun _ i _ => b.length - (intOf i).toNat)
  case atStart => exact ⟨0, Nat.zero_le _, rfl, HS0.out⟩
  case round =>
    clear HS0
    obtain ⟨k, hk, rfl, HS⟩ := hrel
    have s1 := sliceBlo a b.length c k hk
    have HB := Lib.hid (show Below w.heap.size w wr by obtain ⟨f, vs, ps, h⟩ := HS.out; exact h.below)
    have C1 := Lib.hid (one_any _ (b.drop k) wr (HT.out.below HB.out HT.out.lt) ((HY.out.below HB.out).from k hk) (HO.out.drop k) (by rw [List.length_drop]; have := HL.out; omega))
    rcases oneF_cases (b.drop k) with ⟨x, hx, -, hx8⟩ | ⟨p, hx, hpl, hp0, hpm⟩
    · have HX := Lib.hid hx
      rw [hx] at C1
      replace C1 := Lib.hid (one_bad x _ wr C1.out)
      clear hx
      rcases hx8 with rfl | rfl | rfl
      · replace C1 := Lib.hid (show Calls Tryz.prog 120 #[.slice (cutA a c k) (b.length - k) (c - k)] wr (fun e w' => e = .returned (.tuple #[.slice none 0 0, .int .i64 0, .iface 87 (.int .i64 8)]) ∧ Below wr.heap.size wr w') from C1.out)
        have HE := Lib.hid (show ∀ w, Calls Tryz.prog 77 #[.iface 87 (.int .i64 8), .iface 87 (.int .i64 8)] w (fun e w' => e = .returned (.bool true) ∧ w = w') from fun w => is_num 8 8 w)
        go_wp2_with (first
          | (go_at_call 120; (with_reducible refine C1.out.mono ?_); rintro e w1 ⟨rfl, hb1⟩; replace hb1 := Lib.hid hb1)
          | (go_at_call 77; (with_reducible refine (HE.out _).mono ?_); rintro e w2 ⟨rfl, rfl⟩))
        go_ret3
        exact HS.out.stop HX.out hb1.out
      · replace C1 := Lib.hid (show Calls Tryz.prog 120 #[.slice (cutA a c k) (b.length - k) (c - k)] wr (fun e w' => e = .returned (.tuple #[.slice none 0 0, .int .i64 0, .iface 87 (.int .i64 11)]) ∧ Below wr.heap.size wr w') from C1.out)
        have HE := Lib.hid (show ∀ w, Calls Tryz.prog 77 #[.iface 87 (.int .i64 11), .iface 87 (.int .i64 8)] w (fun e w' => e = .returned (.bool false) ∧ w = w') from fun w => is_num 11 8 w)
        go_wp2_with (first
          | (go_at_call 120; (with_reducible refine C1.out.mono ?_); rintro e w1 ⟨rfl, hb1⟩; replace hb1 := Lib.hid hb1)
          | (go_at_call 77; (with_reducible refine (HE.out _).mono ?_); rintro e w2 ⟨rfl, rfl⟩))
        go_ret3
        exact HS.out.stop HX.out hb1.out
      · replace C1 := Lib.hid (show Calls Tryz.prog 120 #[.slice (cutA a c k) (b.length - k) (c - k)] wr (fun e w' => e = .returned (.tuple #[.slice none 0 0, .int .i64 0, .iface 87 (.int .i64 12)]) ∧ Below wr.heap.size wr w') from C1.out)
        have HE := Lib.hid (show ∀ w, Calls Tryz.prog 77 #[.iface 87 (.int .i64 12), .iface 87 (.int .i64 8)] w (fun e w' => e = .returned (.bool false) ∧ w = w') from fun w => is_num 12 8 w)
        go_wp2_with (first
          | (go_at_call 120; (with_reducible refine C1.out.mono ?_); rintro e w1 ⟨rfl, hb1⟩; replace hb1 := Lib.hid hb1)
          | (go_at_call 77; (with_reducible refine (HE.out _).mono ?_); rintro e w2 ⟨rfl, rfl⟩))
        go_ret3
        exact HS.out.stop HX.out hb1.out
    · have HX := Lib.hid hx
      rw [hx] at C1
      clear hx
      obtain ⟨f, vs, ps, HST⟩ := HS.out
      have HVL := Lib.hid (show vs.length < 1099511627776 by have := HST.few; have := HL.out; omega)
      replace HST := Lib.hid HST
      have HPB := Lib.hid (show k + (p.length + 12) ≤ b.length by rw [List.length_drop] at hpl; omega)
      have HPL := Lib.hid hpl
      have hpb1 : p.length ≤ 1048576 := hpm
      have hkb : k ≤ 1099511627776 := by have := HL.out; omega
      have HE := Lib.hid (fun w => is_nil 8 w)
      clear hpl
      go_wp2_with (first
        | (go_at_call 120; (with_reducible refine (one_good p _ wr C1.out).mono ?_); rintro e w1 ⟨v1, a1, c1, rfl, rfl, ho1, hb1⟩; replace hb1 := Lib.hid hb1; replace ho1 := Lib.hid ho1)
        | (go_at_call 77; (with_reducible refine (HE.out _).mono ?_); rintro e w2 ⟨rfl, rfl⟩)
        | (at_builtin; refine wpList_append_slice rfl (.tmp 28) (.tmp 30) rfl rfl w.heap.size _ vs rfl (kept_below (kept_below HST.out.own hb1.out) (below_alloc w1 _)) ⟨w1.heap.size, 0, none⟩ _ rfl (by rw [cell_of_row _ _ _ _ _ _ (heap_alloc_new w1 _)]; rfl) rfl HVL.out (Nat.le_trans HST.out.below.size (Nat.le_trans hb1.out.size (by simp))) ?_; intro v' w3 ho3 hg3 hof3; have HN := Lib.hid (ScanAt.next HST.out HX.out hb1.out ho1.out (below_alloc w1 _) hg3 hof3 ho3); clear ho3 hg3 hof3))
      go_roundw
      case rel => exact ⟨k + (p.length + 12), HPB.out, by go_num, HN.out⟩
      case measure => have := HPB.out; simp [intOf]; omega
end Go.Proofs.YtilpohdidekenaaGreatDoor

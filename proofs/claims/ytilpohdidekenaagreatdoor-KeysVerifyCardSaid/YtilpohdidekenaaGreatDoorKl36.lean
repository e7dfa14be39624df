/- Part 36 of the proof. -/
import Derived.Lib.SlBytesConst
import Derived.Test.YtilpohdidekenaaGreatDoorKl35
namespace Go.Proofs.YtilpohdidekenaaGreatDoor
set_option linter.unusedVariables false
set_option linter.unusedSimpArgs false
open Go.RowKit Go.Maps Go.Proofs
set_option maxRecDepth 100000
variable {B : Nat} {w : World} {g p : Nat} {st : St} {nm : ByteArray} {F : Nat → Int} {D k gl u : Nat} {fail : Option Nat} {bs : List (Value × List Int)}
theorem ksmall_any (D k : Nat) (hD : D = 1) (hk : k = 1) (w : World) : Calls Tryz.prog 40 #[] w fun e w' => e = .returned (.agg (parC (D : Int) (k : Int))) ∧ Below w.heap.size w w' := by
  rw [hD, hk]
  have HB := Lib.hid (below_alloc w (.cells #[.int .i64 0, .int .i64 0] 25))
  go_enter Tryz.func40, Tryz.ntmps40
  go_wp2_with (refine wpList_store_row rfl 25 (.tmp 0) (.tmp 1) rfl w.heap.size #[.int .i64 1, .int .i64 1] rfl rfl 25 _ (heap_alloc_new _ _) (by kernel_rfl) (by rfl) (by rfl) ?_; rw [World.setRow_alloc_new])
  refine bodyPost_ret (results_cell_row rfl _ _ w.heap.size 25 #[.int .i64 1, .int .i64 1] (0, 0) _ rfl (heap_alloc_new _ _) Tryz.underlying25 rfl (by kernel_rfl)) rfl ?_
  exact ⟨rfl, below_alloc _ _⟩
theorem count_calm (hn : nmOk nm.data.toList = true) (hu : u ≤ 1024) (h : CInv nm st u) (ha : st.armed = false) : ∃ st', countS st nm (u + 1) = (none, st') ∧ CInv nm st' (u + 1) ∧ st'.steps = st.steps + 2 ∧ st'.armed = false := by
  rcases count_all hn hu h with ⟨st', h1, h2, h3, h4⟩ | ⟨h, _⟩
  · exact ⟨st', h1, h2, h3, by rw [h4, ha]⟩
  · rw [ha] at h; cases h
/-- nothing is armed, u leaves are counted -/
structure Calm (nm : ByteArray) (st : St) (u : Nat) : Prop where
  name : nmOk nm.data.toList = true
  inv : CInv nm st u
  armed : st.armed = false
  steps : st.steps ≤ 2 * u
theorem ksign_calm (m : SgX B w g p st nm F D k gl u none bs) (hc : Calm nm st u) (v : Value) (text : List Int) (hv : (v, text) ∈ bs) (hu : u < 2 ^ k) :
    Calls Tryz.prog 21 #[.pointer (some ⟨g, 0, none⟩), v] w fun e w' => ∃ v' st', e = .returned (.tuple #[v', .nilIface]) ∧ SgX B w' g p st' nm F D k gl (u + 1) none ((v', sigF F D k u text) :: bs) ∧ Calm nm st' (u + 1) ∧ Below B w w' ∧ KeepS w w' := by
  have hp := pow10 m.kOk
  have hsp := hc.steps
  obtain ⟨st', h1, h2, h3, h4⟩ := count_calm hc.name (by omega) hc.inv hc.armed
  exact (ksign_ok m v text hv hu st' (by omega) h1).mono fun e w' ⟨v', he, hm, hb, hk⟩ => ⟨v', st', he, hm, ⟨hc.name, h2, h4, by omega⟩, hb, hk⟩
theorem SgX.text (m : SgX B w g p st nm F D k gl u fail bs) (x : Int) : SgX B (w.alloc (.cells #[.int .u8 x] 5 (1, 2))) g p st nm F D k gl u fail ((.slice (some ⟨w.heap.size, 0, none⟩) 1 1, [x]) :: bs) := by
  have hb := below_alloc w (.cells #[.int .u8 x] 5 (1, 2))
  have m' := m.below hb
  exact ⟨m'.env, m.fs.add hb (bytes_new w [x] (1, 2) (by simp [maxLen])) (fun _ j hj => .inr (by simp [Value.ownBlock] at hj; omega)), m'.cells, m'.leaves, m'.gB, m'.nmS, m'.dOk, m'.kOk, m'.uOk⟩
theorem SgX.sub (m : SgX B w g p st nm F D k gl u fail bs) {cs : List (Value × List Int)} (hs : ∀ b ∈ cs, b ∈ bs) : SgX B w g p st nm F D k gl u fail cs :=
  ⟨m.env, m.fs.sub hs, m.cells, m.leaves, m.gB, m.nmS, m.dOk, m.kOk, m.uOk⟩
def nmK : ByteArray := { data := #[107] }
def seed0 : Nat → Int := fun _ => 0
theorem calm0 (nm : ByteArray) (hn : nmOk nm.data.toList = true) : Calm nm st0 0 := ⟨hn, ⟨rfl, .inl ⟨rfl, rfl⟩⟩, rfl, Nat.le_refl _⟩
theorem find0 (nm : ByteArray) (hn : nmOk nm.data.toList = true) : aFind st0 nm = (some 8, none) := by
  unfold aFind
  rw [show st0.down = false from rfl, chk_one hn]
  rfl
theorem kopen0 (h : FsX B w p st0 bs) (he : KEnv B w) (hn : nm.size ≤ maxLen) (hok : nmOk nm.data.toList = true) (F : Nat → Int) (D k : Nat) (hD : 1 ≤ D ∧ D ≤ 32) (hk : k ≤ 10) :
    Calls Tryz.prog 18 #[.pointer (some ⟨p, 0, none⟩), .string nm, .agg (rowOf .u8 32 F), .agg (parC D k)] w fun e w' => ∃ g gl, e = .returned (.tuple #[.pointer (some ⟨g, 0, none⟩), .nilIface]) ∧ SgX B w' g p st0 nm F D k gl 0 none bs ∧ Below B w w' ∧ KeepT w w' :=
  kopen_ok h he hn F D k 0 hD hk (Nat.zero_le _) st0 fun w he h => kcounted_none h hn _ (find0 nm hok)
theorem kverify_sig (D k i : Nat) (F : Nat → Int) (text : List Int) (hD : 1 ≤ D ∧ D ≤ 32) (hk : k ≤ 10) (hi : i < 2 ^ k) (vt vs : Value) (w : World) (he : Env w) (ht : BytesIn w vt text) (hs : BytesIn w vs (sigF F D k i text)) :
    Calls Tryz.prog 14 #[.agg (rowOf .u8 32 (rootF (keyL F D k))), .agg (parC D k), vt, vs] w fun e w' => e = .returned .nilIface ∧ Below w.heap.size w w' := by
  have h := kverify_any (rootF (keyL F D k)) (D : Int) (k : Int) vt vs text _ w he ht hs (sigF_ok F D k i text) (by have := sigF_length F D k i text hD hk hi; omega)
  rw [ver_sig F _ D k i text hD hk hi, if_pos (eqB_self _)] at h
  exact h
theorem kleaf_sig (D k i : Nat) (F : Nat → Int) (text : List Int) (hD : 1 ≤ D ∧ D ≤ 32) (hk : k ≤ 10) (hi : i < 2 ^ k) (vs : Value) (w : World) (hs : BytesIn w vs (sigF F D k i text)) :
    Calls Tryz.prog 9 #[vs] w fun e w' => e = .returned (.tuple #[.int .i64 (i : Int), .nilIface]) ∧ Below w.heap.size w w' := by
  have h := kleaf_any vs _ w hs (sigF_ok F D k i text) (by have := sigF_length F D k i text hD hk hi; omega)
  obtain ⟨h1, h2, _⟩ := sig_signer F D k i text hD hk hi
  rw [h1, h2] at h
  exact h
set_option maxRecDepth 2000000 in
set_option maxHeartbeats 4000000 in
theorem ksure_any (w : World) (he : KEnv w.heap.size w) : Calls Tryz.prog 16 #[] w fun e w' => e = .returned (.bool true) ∧ Below w.heap.size w w' := by
  obtain ⟨D, hD⟩ : ∃ D : Nat, D = 1 := ⟨_, rfl⟩
  obtain ⟨k, hk⟩ : ∃ k : Nat, k = 1 := ⟨_, rfl⟩
  have HDD := Lib.hid (show 1 ≤ D ∧ D ≤ 32 by omega)
  have HKK := Lib.hid (show k ≤ 10 by omega)
  have H2 := Lib.hid (show 2 ^ k = 2 by rw [hk])
  have HSM := Lib.hid (ksmall_any D k hD hk)
  have HNU := Lib.hid (show ∀ w, ErrType w → Calls Tryz.prog 11 #[.iface 87 (.int .i64 22)] w fun e w' => e = .returned (.int .i64 22) ∧ Below w.heap.size w w' from fun w h => num_any (some 22) w h)
  have HOP := Lib.hid (show ∀ w' p, KEnv w.heap.size w' → FsX w.heap.size w' p st0 [] → Calls Tryz.prog 18 #[.pointer (some ⟨p, 0, none⟩), .string { data := #[107] }, .agg (rowOf .u8 32 (fun _ => 0)), .agg (parC D k)] w' fun e w'' => ∃ g gl, e = .returned (.tuple #[.pointer (some ⟨g, 0, none⟩), .nilIface]) ∧ SgX w.heap.size w'' g p st0 nmK seed0 D k gl 0 none [] ∧ Below w.heap.size w' w'' ∧ KeepT w' w'' from fun w' p h1 h2 => kopen0 (nm := nmK) h2 h1 (by decide) (by decide) seed0 D k HDD.out HKK.out)
  have HC0 := Lib.hid (calm0 nmK (by decide))
  have HE := Lib.hid he
  have kc := fun (w : World) (C : Array Value) (n c : Nat) => Lib.run_convert_bytes_const (P := Tryz.prog) w 26 5 C n c Tryz.underlying26 Tryz.underlying5
  clear he hD hk
  go_enter Tryz.func16, Tryz.ntmps16
  go_upto_region 4 with (first
    | (go_at_call 17; (with_reducible refine (new_own _).mono ?_); rintro e w1 ⟨p, rfl, ho, hb⟩; have HO := Lib.hid (FsX.of ho); have HB := Lib.hid hb; clear ho hb)
    | (go_at_call 40; (with_reducible refine (HSM.out _).mono ?_); rintro e w2 ⟨rfl, hb⟩; replace HO := Lib.hid (HO.out.below hb); replace HB := Lib.hid (HB.out.trans (hb.mono HB.out.size)); clear hb)
    | (go_at_call 18; rw [zeros32]; (with_reducible refine (HOP.out _ p (HE.out.below HB.out) HO.out).mono ?_); rintro e w3 ⟨g, gl, rfl, hm, hb, -⟩; have M := Lib.hid hm; replace HB := Lib.hid (HB.out.trans hb); clear hb hm HO))
  replace HB := Lib.hid (HB.out.trans ((below_alloc w3 (.cells #[.int .u8 97] 5 (1, 2))).mono M.out.fs.le))
  replace M := Lib.hid (M.out.text 97)
  go_upto_region 5 with (go_at_call 21; (with_reducible refine (ksign_calm M.out HC0.out _ [97] (List.mem_cons_self ..) (by rw [H2.out]; omega)).mono ?_); rintro e w4 ⟨va, st1, rfl, hm, hc, hb, -⟩; replace HC0 := Lib.hid hc; replace M := Lib.hid hm; replace HB := Lib.hid (HB.out.trans hb); clear hb hm hc)
  replace HB := Lib.hid (HB.out.trans ((below_alloc w4 (.cells #[.int .u8 98] 5 (1, 2))).mono M.out.fs.le))
  replace M := Lib.hid (M.out.text 98)
  go_upto_region 6 with (go_at_call 21; (with_reducible refine (ksign_calm M.out HC0.out _ [98] (List.mem_cons_self ..) (by rw [H2.out]; omega)).mono ?_); rintro e w5 ⟨vb, st2, rfl, hm, hc, hb, -⟩; replace HC0 := Lib.hid hc; replace M := Lib.hid hm; replace HB := Lib.hid (HB.out.trans hb); clear hb hm hc)
  replace HB := Lib.hid (HB.out.trans ((below_alloc w5 (.cells #[.int .u8 99] 5 (1, 2))).mono M.out.fs.le))
  replace M := Lib.hid (M.out.text 99)
  have HSP := Lib.hid (show ∀ w' bs, SgX w.heap.size w' g p st2 nmK seed0 D k gl (0 + 1 + 1) none bs → Calls Tryz.prog 21 #[.pointer (some ⟨g, 0, none⟩), .slice (some ⟨w5.heap.size, 0, none⟩) 1 1] w' fun e w'' => ∃ v', e = .returned (.tuple #[v', .iface 87 (.int .i64 22)]) ∧ SgX w.heap.size w'' g p st2 nmK seed0 D k gl (0 + 1 + 1) none ((v', []) :: bs) ∧ Below w.heap.size w' w'' ∧ KeepS w' w'' from fun w' bs h => by
    have h' := h
    rw [show 0 + 1 + 1 = 2 ^ k by rw [H2.out]] at h'
    have := ksign_spent h' (.slice (some ⟨w5.heap.size, 0, none⟩) 1 1)
    rw [show 2 ^ k = 0 + 1 + 1 by rw [H2.out]] at this
    exact this)
  go_upto_region 7 with (go_at_call 21; (with_reducible refine (HSP.out _ _ M.out).mono ?_); rintro e w6 ⟨vc, rfl, hm, hb, -⟩; replace M := Lib.hid hm; replace HB := Lib.hid (HB.out.trans hb); clear hb hm)
  have HLF := Lib.hid (show ∀ w, BytesIn w vb (sigF seed0 D k (0 + 1) [98]) → Calls Tryz.prog 9 #[vb] w fun e w' => e = .returned (.tuple #[.int .i64 1, .nilIface]) ∧ Below w.heap.size w w' from fun w h => kleaf_sig D k (0 + 1) seed0 [98] HDD.out HKK.out (by rw [H2.out]; omega) vb w h)
  have HLT := Lib.hid (show ∀ w' bs, SgX w.heap.size w' g p st2 nmK seed0 D k gl (0 + 1 + 1) none bs → Calls Tryz.prog 25 #[.pointer (some ⟨g, 0, none⟩)] w' fun e w'' => e = .returned (.int .i64 0) ∧ Below w'.heap.size w' w'' from fun w' bs h => by
    have := kleft_any h
    rw [H2.out] at this
    exact this)
  have HVF := Lib.hid (fun vt w (h1 : Env w) h2 h3 => kverify_sig D k 0 seed0 [97] HDD.out HKK.out (by rw [H2.out]; omega) vt va w h1 h2 h3)
  have HRO := Lib.hid (fun w' bs (h : SgX w.heap.size w' g p st2 nmK seed0 D k gl (0 + 1 + 1) none bs) => ksroot_any h)
  obtain ⟨R, hR⟩ : ∃ R, R = rootF (keyL seed0 D k) := ⟨_, rfl⟩
  rw [← hR] at HVF HRO
  clear hR
  go_upto_region 8 with (go_at_call 9; (with_reducible refine (HLF.out _ (M.out.fs.bytes (b := (vb, _)) (by simp))).mono ?_); rintro e w7 ⟨rfl, hb⟩; replace HB := Lib.hid (HB.out.trans (hb.mono M.out.fs.le)); replace M := Lib.hid (M.out.below hb); clear hb)
  go_wp2_with (first
    | (go_at_call 11; (with_reducible refine (HNU.out _ M.out.env.err).mono ?_); rintro e w8 ⟨rfl, hb⟩; replace HB := Lib.hid (HB.out.trans (hb.mono M.out.fs.le)); replace M := Lib.hid (M.out.below hb); clear hb)
    | (go_at_call 19; (with_reducible refine (HRO.out _ _ M.out).mono ?_); rintro e w9 ⟨rfl, hb⟩; replace HB := Lib.hid (HB.out.trans (hb.mono M.out.fs.le)); replace M := Lib.hid (M.out.below hb); clear hb)
    | (go_at_call 40; (with_reducible refine (HSM.out _).mono ?_); rintro e w10 ⟨rfl, hb⟩; replace HB := Lib.hid (HB.out.trans (hb.mono M.out.fs.le)); replace M := Lib.hid (M.out.below hb); clear hb; replace HB := Lib.hid (HB.out.trans ((below_alloc w10 (.cells #[.int .u8 97] 5 (1, 2))).mono M.out.fs.le)); replace M := Lib.hid (M.out.text 97))
    | (go_at_call 14; (with_reducible refine (HVF.out _ _ M.out.env.env (M.out.fs.bytes (b := (_, _)) (List.mem_cons_self ..)) (M.out.fs.bytes (b := (va, _)) (by simp))).mono ?_); rintro e w11 ⟨rfl, hb⟩; replace HB := Lib.hid (HB.out.trans (hb.mono M.out.fs.le)); replace M := Lib.hid (M.out.below hb); clear hb)
    | (go_at_call 25; (with_reducible refine (HLT.out _ _ M.out).mono ?_); rintro e w12 ⟨rfl, hb⟩; replace HB := Lib.hid (HB.out.trans (hb.mono M.out.fs.le)); replace M := Lib.hid (M.out.below hb); clear hb))
  go_ret
  exact ⟨rfl, HB.out⟩
end Go.Proofs.YtilpohdidekenaaGreatDoor

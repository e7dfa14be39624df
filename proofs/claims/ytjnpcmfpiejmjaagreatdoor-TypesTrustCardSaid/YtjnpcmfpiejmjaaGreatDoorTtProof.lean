/- For every Case, commit and header, TypesTrust returns true and leaves its arguments as they were. Conditions: errors.errorType and the two tables of package sha read as the program's text lays them, which the card ties to that text; no piece of what came in is larger than the reach. -/
import Derived.Test.YtjnpcmfpiejmjaaGreatDoorTie
import Derived.Test.YtjnpcmfpiejmjaaGreatDoorCards
import Derived.SevenTiedAt
import Derived.Test.YtjnpcmfpiejmjaaGreatDoorVoProof
import Derived.Test.YtjnpcmfpiejmjaaGreatDoorVo42
import Derived.Test.YtjnpcmfpiejmjaaGreatDoorTt1
namespace Go.Proofs.YtjnpcmfpiejmjaaGreatDoor
set_option linter.unusedVariables false
set_option linter.unusedSimpArgs false
open Go.ChangeShapes Go.WideShapes Go.ChangeAt Go.RowKit
set_option maxRecDepth 100000
set_option maxHeartbeats 8000000 in
theorem tytrust_lifted (os : Os) (started : os.Started) (H : Type) (enc : TypeId × Value → H) :
    ReturnsInHanded {} Tryz.checked os 7 .any (fun w args => (Rows.typesTrustSpec.pre enc Tryz.prog Tryz.f7 [] false w args ∧ laidMetH Tryz.prog laidShaErr w) ∧ sizedMet enc Tryz.prog Tryz.f7 (OpenSpec.ofChange Rows.typesTrustSpec) false w args)
      (Rows.typesTrustSpec.post enc Tryz.prog Tryz.f7 false true false false) := by
  refine returnsInHanded_of_change_and (C := Tryz.checked) (X := fun w _ => laidMetH Tryz.prog laidShaErr w) (fun _ _ _ hh h => h.of_heap hh) doorOwn started (by kernel_rfl) Tryz.func7
    (ChangeSpec.witness_shaped (enc := enc) (C := Tryz.checked) (os := os) (X := fun w _ => laidMetH Tryz.prog laidShaErr w) false (World.doorLaid Tryz.prog 400 os) #[.agg #[.string { data := #[] }, .slice none 0 0, .int .i64 0, .int .i64 0], .agg (#[.int .i64 0, .int .i64 0] ++ Array.replicate 32 (.int .u8 0) ++ #[.slice none 0 0]), .agg (#[.string { data := #[] }, .int .i64 0, .int .i64 0] ++ Array.replicate 160 (.int .u8 0) ++ #[.int .i64 0])] 8 rfl (World.shaped_of_RefB (by kernel_rfl) (by kernel_rfl)) (by kernel_rfl) (by kernel_rfl) (by kernel_rfl) (met_shaErr os _)) ?_
  intro W base args ds gs before hval0 hW _ hsz0 hL _
  have hsz : (DataW.weightsEach Tryz.prog (Tryz.f7.params.toList ++ Rows.typesTrustSpec.plain.varTypes Tryz.prog) (ds ++ gs)).all (· ≤ reachBytes) = true := hsz0
  clear hsz0
  have hval : ∀ (j : Nat) t v, Tryz.f7.params[j]? = some t → args[j]? = some v → Value.okWide Tryz.prog W .any base t v := hval0
  have hW' := hW
  obtain ⟨p, q, hA0, hV, rfl, hfz, hnd⟩ := hW
  have hA : DataW.TrodAll enc Tryz.prog W 0 (fun _ => true) true Tryz.f7.params.toList args.toList ds p := hA0
  rw [Tryz.params7] at hA hval hsz
  obtain ⟨v0, vs0, d0, ds0, p0, q0, hargs, rfl, rfl, h0, r0⟩ := trodAll_cons hA
  obtain ⟨v1, vs1, d1, ds1, p1, q1, rfl, rfl, rfl, h1, r1⟩ := trodAll_cons r0
  obtain ⟨v2, vs2, d2, ds2, p2, q2, rfl, rfl, rfl, h2, r2⟩ := trodAll_cons r1
  obtain ⟨rfl, rfl, rfl⟩ := trodAll_nil r2
  obtain rfl : args = #[v0, v1, v2] := by cases args; simp_all
  obtain ⟨rfl, rfl⟩ := trodVars_none hV
  obtain ⟨cs0, rfl, -⟩ := okWide_struct Tryz.underlying44 (hval 0 44 v0 rfl rfl)
  have k0 := h0
  have lt0 : ∀ x ∈ p0, x.block < W.heap.size := by obtain ⟨m, hm⟩ := k0; exact DataW.trod_lt m _ _ _ hm
  obtain ⟨s0, sv0, l0, D0, E0, rfl, hx0, hk0, hxs0⟩ := casetK_arg h0
  have hlen0 := hxs0 _ _ 0 (by rfl) (by rfl) hsz
  obtain ⟨cs1, rfl, -⟩ := okWide_struct Tryz.underlying59 (hval 1 59 v1 rfl rfl)
  have k1 := h1
  have lt1 : ∀ x ∈ p1, x.block < W.heap.size := by obtain ⟨m, hm⟩ := k1; exact DataW.trod_lt m _ _ _ hm
  obtain ⟨c1, sv1, ts1, rfl, hx1, hs1, hxs1⟩ := commit_arg h1
  have hlen1 := hxs1 _ _ 1 (by rfl) (by rfl) hsz
  obtain ⟨cs2, rfl, -⟩ := okWide_struct Tryz.underlying55 (hval 2 55 v2 rfl rfl)
  have k2 := h2
  have lt2 : ∀ x ∈ p2, x.block < W.heap.size := by obtain ⟨m, hm⟩ := k2; exact DataW.trod_lt m _ _ _ hm
  obtain ⟨CH2, HT2, TM2, LA2, AP2, TX2, VA2, NX2, PR2, hcs2, hn2, hb2, hxs2⟩ := header_arg h2
  have hlen2 := hxs2 _ _ 2 (by rfl) (by rfl) hsz
  clear hA0 hval0
  have HWK := ltrust_any s0 l0 sv0 D0 E0 c1 ts1 sv1 CH2 HT2 TM2 LA2 AP2 TX2 VA2 NX2 PR2 W (shaErr_of_laid hL).1 (shaErr_of_laid hL).2 hx0 hx1 hs1 hlen0.1 hlen0.2 hk0 hlen1 hn2.1 hn2.2.1 hn2.2.2 hb2.1 hb2.2.1 hb2.2.2.1 hb2.2.2.2.1 hb2.2.2.2.2 hlen2
  rw [← hcs2] at HWK
  refine HWK.mono fun e W' ⟨he, bel⟩ => ?_
  subst he
  exact ⟨_, rfl, _, _, _, [], _, [], hW', trodAll_mk1 (shut_bool Tryz.underlying4 _), (trodAll_cons_mk (Below.trod doorLaidOut (by kernel_rfl) (of_decide_eq_true (by kernel_rfl)) k0 bel lt0) (trodAll_cons_mk (Below.trod doorLaidOut (by kernel_rfl) (of_decide_eq_true (by kernel_rfl)) k1 bel lt1) (trodAll_cons_mk (Below.trod doorLaidOut (by kernel_rfl) (of_decide_eq_true (by kernel_rfl)) k2 bel lt2) trodAll_mk0))), rfl, bel.frame _, fun h => by cases h⟩
theorem tytrust_holds : Rows.TypesTrustSaid :=
  OpenClaim.holds_of_wide 7 Tryz.f7 rfl rfl rfl rfl rfl rfl rfl ⟨rfl, rfl, rfl, rfl, rfl⟩ rfl rfl rfl rfl rfl (by kernel_rfl) Tryz.func7 (by kernel_rfl)
    (of_decide_eq_true (by kernel_rfl)) (by unfold Func.isWrapper; first | (rw [if_pos (by decide +kernel)]; kernel_rfl) | (rw [if_neg (by decide +kernel)]; exact ⟨rfl, rfl⟩))
    (fun os started H enc _ => tytrust_lifted os started H enc)
theorem tytrust_card : Rows.TypesTrustCardSaid :=
  Claim7.holds_tied_plain_at .later [] [.handle, .data, .data] true _ true
    tytrust_holds (fun _ h => by cases h) (by kernel_rfl) (fun _ h => by cases h) typesTrust_row_tie rfl ⟨rfl, rfl⟩ (by kernel_rfl) rfl
    (fun f fn hf hfn => by
      obtain rfl : f = 7 := Option.some.inj ((show Tryz.prog.funcNamed "isthmus/isthmuslaw11.TypesTrust" = some 7 by kernel_rfl).symm.trans hf) |>.symm
      obtain rfl : fn = Tryz.f7 := (Option.some.inj (Tryz.func7.symm.trans hfn)).symm
      exact ⟨by kernel_rfl, fun j t ht => by
        rw [Tryz.params7] at ht
        have hm : t ∈ [44, 59, 55] := by simpa using Array.mem_of_getElem? ht
        have hall : ([44, 59, 55].all fun u => !Tryz.prog.wantsStandIn u) = true := by kernel_rfl
        exact (show Tryz.prog.wantsStandIn t = false by simpa using List.all_eq_true.1 hall t hm)⟩)
    (by kernel_rfl)
#print axioms tytrust_card
end Go.Proofs.YtjnpcmfpiejmjaaGreatDoor

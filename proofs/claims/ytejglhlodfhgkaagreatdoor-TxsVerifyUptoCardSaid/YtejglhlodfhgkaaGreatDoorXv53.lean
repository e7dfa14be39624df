/- Part 47 of the proof. -/
import Derived.Test.YtejglhlodfhgkaaGreatDoorXv1
import Derived.Test.YtejglhlodfhgkaaGreatDoorXv41
import Derived.BigQuiet
import Derived.Test.YtejglhlodfhgkaaGreatDoorXv13
import Derived.Test.YtejglhlodfhgkaaGreatDoorXv50
import Derived.Test.YtejglhlodfhgkaaGreatDoorXv43
import Derived.Test.YtejglhlodfhgkaaGreatDoorXv46
namespace Go.Proofs.YtejglhlodfhgkaaGreatDoor
set_option linter.unusedVariables false
set_option linter.unusedSimpArgs false
open Go.RowKit
set_option maxRecDepth 100000
set_option linter.unusedSimpArgs false
set_option linter.unusedVariables false
end Go.Proofs.YtejglhlodfhgkaaGreatDoor

/- Part 48 of the proof. -/
namespace Go.Proofs.YtejglhlodfhgkaaGreatDoor
set_option linter.unusedVariables false
set_option linter.unusedSimpArgs false
open Go.RowKit
set_option maxRecDepth 100000
set_option linter.unusedSimpArgs false
set_option linter.unusedVariables false
end Go.Proofs.YtejglhlodfhgkaaGreatDoor

/- Part 51 of the proof. -/
namespace Go.Proofs.YtejglhlodfhgkaaGreatDoor
set_option linter.unusedVariables false
set_option linter.unusedSimpArgs false
open Go.RowKit
set_option maxRecDepth 100000
set_option linter.unusedSimpArgs false
set_option linter.unusedVariables false
end Go.Proofs.YtejglhlodfhgkaaGreatDoor

/- Part 52 of the proof. -/
namespace Go.Proofs.YtejglhlodfhgkaaGreatDoor
set_option linter.unusedVariables false
set_option linter.unusedSimpArgs false
open Go.RowKit
set_option maxRecDepth 100000
set_option linter.unusedSimpArgs false
set_option linter.unusedVariables false
theorem pl_of {x : Tr} (h : pxP x = pxPl) : x.acc = annS ∧ x.den = atomS ∧ x.seq = 0 ∧ x.amt = 0 ∧ ∃ m, x.ms = [m] ∧ m.kind = 1 ∧ m.is.length = 1 := by
  have h1 := congrArg Px.acc h
  have h2 := congrArg Px.den h
  have h3 := congrArg Px.seq h
  have h4 := congrArg Px.amt h
  have h5 := congrArg Px.ms h
  refine ⟨h1, h2, h3, h4, ?_⟩
  have h6 : x.ms.map mgP = [⟨1, [bobS, atomS], [1], []⟩] := h5
  match hm : x.ms, h6 with
  | [], h6 => cases h6
  | a :: b :: r, h6 => simp at h6
  | [m], h6 =>
    simp only [List.map_cons, List.map_nil, List.cons.injEq, and_true] at h6
    have h7 := congrArg Pm.kind h6
    have h8 := congrArg Pm.is h6
    exact ⟨m, rfl, h7, by show m.is.length = 1; rw [show m.is = [1] from h8]; rfl⟩
set_option maxHeartbeats 8000000 in
theorem lxsure_any (w : World) (h : ShTab w) : Calls Tryz.prog 18 #[] w fun e w' => e = .returned (.bool true) ∧ Below w.heap.size w w' := by
  have HT := Lib.hid h
  have HEN := Lib.hid (show ∀ (x : Tr) (w : World), ShTab w → TrE w x → pxP x = pxPl → TrFl x → Calls Tryz.prog 10 #[.agg (trC15 x)] w fun e w' => ∃ vb, e = .returned (.tuple #[vb, .nilIface]) ∧ BytesIn w' vb (pxB pxPl) ∧ Below w.heap.size w w' from fun x w h he hp hf => by
    obtain ⟨p1, p2, -⟩ := pl_of hp
    have := tenc_any x w h he hf (by rw [p1]; decide) (by rw [p2]; decide) (by rw [trB_P, hp]; have := pl_len; omega)
    rw [hp, pl_enc, pl_encL] at this
    exact this)
  have HDE := Lib.hid (show ∀ (vb : Value) (w : World), ShTab w → BytesIn w vb (pxB pxPl) → Calls Tryz.prog 19 #[vb] w fun e w' => ∃ x : Tr, e = .returned (.tuple #[.agg (trC15 x), .nilIface]) ∧ TrE w' x ∧ pxP x = pxPl ∧ Below w.heap.size w w' from fun vb w h hy => by
    have := tdec_any vb (pxB pxPl) w h hy pl_ok (by have := pl_len; omega)
    unfold DecO at this
    rw [(dec_yes pl_dec.1).1, (dec_yes pl_dec.1).2, pl_dec.2] at this
    exact this)
  clear h
  go_enter Tryz.func18, Tryz.ntmps18
  go_upto_region 3 with (first
    | (go_at_call 65; (with_reducible refine (lplain_any w).mono ?_); rintro e w1 ⟨x, rfl, he, hp, hf, hb⟩; have HX := Lib.hid he; have HP := Lib.hid hp; have HF := Lib.hid hf; have HB := Lib.hid hb; clear he hp hf hb)
    | (go_at_call 10; (with_reducible refine (HEN.out x w1 (HT.out.below HB.out HT.out.lt) HX.out HP.out HF.out).mono ?_); rintro e w2 ⟨vb, rfl, hy, hb⟩; have HY := Lib.hid hy; have HB2 := Lib.hid (HB.out.trans (hb.mono HB.out.size)); clear hy hb)
    | (go_at_call 19; (with_reducible refine (HDE.out vb w2 (HT.out.below HB2.out HT.out.lt) HY.out).mono ?_); rintro e w3 ⟨y, rfl, he, hp, hb⟩; have HE := Lib.hid he; have HP2 := Lib.hid hp; have HB3 := Lib.hid (HB2.out.trans (hb.mono HB2.out.size)); have HV := Lib.hid he.v; obtain ⟨CV, hCV⟩ : ∃ c, c = trC15 y := ⟨_, rfl⟩; have HCV := Lib.hid hCV; have HCS := Lib.hid (show CV.size = 6 from by rw [hCV]; rfl); have HCO := Lib.hid (show CV.all (·.oneCell') = true from by rw [hCV]; exact trC15_one HV.out); rw [← hCV]; clear hCV he hp hb)
    | (refine wpList_store_row rfl 34 (.tmp 3) (.tmp 13) rfl w3.heap.size CV rfl rfl 34 _ (heap_alloc_new _ _) (by rw [HCS.out]; kernel_rfl) (by rw [HCS.out]; rfl) HCO.out ?_; rw [World.setRow_alloc_new]))
  have hq := heap_alloc_new w3 (.cells CV 34)
  have hb := below_alloc w3 (.cells CV 34)
  have HB4 := Lib.hid (HB3.out.trans (hb.mono HB3.out.size))
  have hE := HE.out.below hb
  obtain ⟨p1, p2, p3, p4, m, hm, hk, hi⟩ := pl_of HP2.out
  obtain ⟨⟨a1, c1, e1⟩, ⟨a2, c2, e2⟩⟩ := HV.out
  have hin := hE.m
  have hme := hE.e m (by rw [hm]; simp)
  obtain ⟨⟨_, _, et⟩, ⟨ai, ci, ei⟩, ⟨_, _, ed⟩⟩ := hme.v
  rw [e1, hm] at hin
  rw [hm] at e1
  obtain ⟨ab, ao, rfl, hab, hra⟩ := RowsIn.at hin (i := 0) (s := m) rfl
  have hCe : CV = #[.string annS, .int .i64 0, .string atomS, .int .i64 0, .slice (some ⟨ab, ao, none⟩) 1 c1, y.sv] := by rw [HCV.out]; unfold trC15; rw [p1, p2, p3, p4, e1]; rfl
  rw [hCe] at hq
  obtain ⟨k0, -, -, -, -, k4, -⟩ := tx_cells hq
  rw [← hCe] at k0 k4
  have k5 := hra 0 _ rfl
  have k6 := hra 2 _ rfl
  rw [hk] at k5
  rw [ei, hi] at k6
  simp only [Nat.zero_mul, Nat.add_zero] at k5 k6
  clear hq hb hE hin hme hra e1 e2 et ei ed hm hk hi p1 p2 p3 p4 hCe
  obtain ⟨g3, hg3⟩ : ∃ z, z = w3.heap.size := ⟨_, rfl⟩
  rw [← hg3] at k0 k4 ⊢
  clear hg3
  generalize w3.alloc (.cells CV 34) = w4 at *
  have ks : annS.toList = [97, 110, 110] := by rw [ByteArray.toList_eq]; rfl
  go_wp2_with (fail)
  go_ret
  exact ⟨rfl, HB4.out⟩
end Go.Proofs.YtejglhlodfhgkaaGreatDoor

/- Part 53 of the proof. -/
namespace Go.Proofs.YtejglhlodfhgkaaGreatDoor
set_option linter.unusedVariables false
set_option linter.unusedSimpArgs false
open Go.RowKit
set_option maxRecDepth 100000
set_option linter.unusedSimpArgs false
set_option linter.unusedVariables false
theorem TrBk.sm {w : World} {B : Nat} {x : Tr} (h : TrBk w B x) (hB : B ≤ 1048576) : TrSm x :=
  ⟨Nat.le_trans h.nm hB, Nat.le_trans h.ns hB, fun m hm => ⟨Nat.le_trans (h.ok m hm).nt hB, Nat.le_trans (h.ok m hm).ni hB, Nat.le_trans (h.ok m hm).nd hB, fun t ht => Nat.le_trans (Nat.le_trans (mem_sum_le (List.mem_map.2 ⟨t, ht, rfl⟩)) (h.ok m hm).sd) hB⟩⟩
/-- a transaction whose Sign, number and amount are others -/
theorem TrE.with15 {w : World} {y : Tr} (h : TrE w y) {v : Value} {g : List Int} (hv : BytesIn w v g) (s a : Int) : TrE w { y with sv := v, sg := g, seq := s, amt := a } := ⟨h.m, h.e, hv⟩
theorem TrFl.with15 {y : Tr} (h : TrFl y) {s a : Int} (hs : i64b s) (ha : i64b a) (v : Value) (g : List Int) : TrFl { y with sv := v, sg := g, seq := s, amt := a } := ⟨hs, ha, h.m⟩
/-- what stands still while the law goes on: the argument's copy, the table, the argument -/
structure BkM (w : World) (p5 : Nat) (CX : Array Value) (x : Tr) (wr : World) : Prop where
  b : Below w.heap.size w wr
  r : wr.heap[p5]? = some (.cells CX 27 (0, 0))
  x : TrE wr x
  t : ShTab wr
theorem BkM.call {w : World} {p5 : Nat} {CX : Array Value} {x : Tr} {wr w' : World} (m : BkM w p5 CX x wr) (h : Below wr.heap.size wr w') : BkM w p5 CX x w' :=
  ⟨m.b.trans (h.mono m.b.size), (h.block p5 (bkT_lt m.r)).trans m.r, m.x.below h, m.t.below h m.t.lt⟩
end Go.Proofs.YtejglhlodfhgkaaGreatDoor

/- FrameSpoilt: the walk. -/
import Derived.Test.YtfdjmfomccckaaaDoorSureC
import Derived.Test.YtfdjmfomccckaaaDoorScan
import Derived.Test.YtfdjmfomccckaaaDoorTorn
import Derived.Test.YtfdjmfomccckaaaDoorNum
import Derived.Test.YtfdjmfomccckaaaDoorTwin
import Derived.Test.YtfdjmfomccckaaaDoorSpMath
import Derived.Laws.OwnMore
namespace Go.Proofs.YtfdjmfomccckaaaDoor
open Go.RowKit
set_option maxRecDepth 100000
theorem owns_head {w : World} {base n : Nat} {v : Value} {vs : List Value} (h : w.ownsRow base 5 1 v n vs) (h0 : n ≠ 0) : ∃ g c, v = .slice (some ⟨g, 0, none⟩) n c := by
  rcases h.2 with ⟨rfl, h1⟩ | ⟨g, c, _, rfl, _⟩
  · exact absurd h1 h0
  · exact ⟨g, c, rfl⟩
def SpF (xs : List Int) (w0 : World) (e : Ending) (w' : World) : Prop := ∃ g c, e = .returned (.tuple #[.slice (some ⟨g, 0, none⟩) (recF xs).length c, .nilIface]) ∧ w'.ownsRow w0.heap.size 5 1 (.slice (some ⟨g, 0, none⟩) (recF xs).length c) (recF xs).length (byteVals (recF xs)) ∧ Below w0.heap.size w0 w'
theorem sp_frame (y : Value) (xs : List Int) (w0 w : World) (hT : NibAt w) (hy : BytesIn w y xs) (ho : bytesOk xs) (h1 : xs.length ≠ 0) (h2 : xs.length ≤ 1048576) (hb : Below w0.heap.size w0 w) : Calls Tryd.prog 8 #[y] w (SpF xs w0) := by
  refine (frame_ok y xs w hT hy ho h1 h2).mono fun e w' h => ?_
  obtain ⟨v', he, ho, hb2⟩ := h
  obtain ⟨g, c, rfl⟩ := owns_head ho (by rw [recF_length]; omega)
  exact ⟨g, c, he, owns_base ho hb.size, hb.trans (hb2.mono hb.size)⟩
theorem sp_one (y : Value) (b : List Int) (w0 w : World) (hT : NibAt w) (hy : BytesIn w y b) (ho : bytesOk b) (hl : b.length ≤ 140737488355328) (hx : oneF b = (some 11, [])) (hb : Below w0.heap.size w0 w) :
    Calls Tryd.prog 10 #[y] w fun e w' => e = .returned (.tuple #[.slice none 0 0, .int .i64 0, .iface 51 (.int .i64 11)]) ∧ Below w0.heap.size w0 w' ∧ Below w.heap.size w w' := by
  have h := one_any y b w hT hy ho hl
  rw [hx] at h
  exact (one_bad 11 y w h).mono fun e w' h => ⟨h.1, hb.trans (h.2.mono hb.size), h.2⟩
theorem sp_scan (y : Value) (b : List Int) (w0 w : World) (hT : NibAt w) (hy : BytesIn w y b) (ho : bytesOk b) (hl : b.length < 1099511627776) (h0 : b.length ≠ 0) (hx : oneF b = (some 11, [])) (hb : Below w0.heap.size w0 w) :
    Calls Tryd.prog 12 #[y] w fun e w' => ∃ a c, e = .returned (.tuple #[.slice a 0 c, .int .i64 0, .iface 51 (.int .i64 11)]) ∧ Below w0.heap.size w0 w' := by
  refine (scan_any y b w hT hy ho hl).mono fun e w' h => ?_
  obtain ⟨v, vs, he, ho, hL, hb2⟩ := h
  have hs : scanF b = ([], 0, some 11) := by
    obtain ⟨f, hf⟩ : ∃ f, b.length = f + 1 := ⟨b.length - 1, by omega⟩
    unfold scanF
    rw [hf]
    simp only [scanG, hx]
    rfl
  rw [hs] at he hL
  have hv0 : vs.length = 0 := hL.1
  rw [hv0] at ho
  rcases ho.2 with ⟨rfl, _⟩ | ⟨g, c, _, rfl, _⟩
  · exact ⟨none, 0, he, hb.trans (hb2.mono hb.size)⟩
  · exact ⟨_, c, he, hb.trans (hb2.mono hb.size)⟩
theorem sp_num (w0 w : World) (hg : ErrType w) (hb : Below w0.heap.size w0 w) : Calls Tryd.prog 14 #[.iface 51 (.int .i64 11)] w fun r w' => r = .returned (.int .i64 11) ∧ Below w0.heap.size w0 w' :=
  (num_any (some 11) w hg).mono fun _ _ h => ⟨h.1, hb.trans (h.2.mono hb.size)⟩
theorem sp_sure (w0 w : World) (hT : NibAt w) (hb : Below w0.heap.size w0 w) : Calls Tryd.prog 19 #[] w fun e w' => e = .returned (.bool true) ∧ Below w0.heap.size w0 w' :=
  (sure_any w hT).mono fun _ _ h => ⟨h.1, hb.trans (h.2.mono hb.size)⟩
def TwinPost (ys : List Int) (w0 : World) (e : Ending) (w' : World) : Prop := ∃ v', e = .returned v' ∧ BytesIn w' v' ys ∧ Below w0.heap.size w0 w'
theorem sp_twin (y : Value) (ys : List Int) (w0 w : World) (hy : BytesIn w y ys) (hl : ys.length ≤ 140737488351232) (hb : Below w0.heap.size w0 w) : Calls Tryd.prog 7 #[y] w (TwinPost ys w0) :=
  (twin_any y ys w hy (by omega)).mono fun _ _ ⟨v, h1, h2, h3⟩ => ⟨v, h1, owns_in h2 (by unfold maxLen; omega), hb.trans (h3.mono hb.size)⟩
theorem sp_row {w : World} {B g n c : Nat} {R : List Int} (h : w.ownsRow B 5 1 (.slice (some ⟨g, 0, none⟩) n c) R.length (byteVals R)) (hl : R.length ≤ 1099511627776) (i : Nat) (x : Int) (hx : R[i]? = some x) :
    w.cell? ⟨g, i, none⟩ = some (.int .u8 x) ∧ w.frozen? ⟨g, i, none⟩ = false ∧ ∀ q : Int, BytesIn (w.setCell ⟨g, i, none⟩ (.int .u8 q)) (.slice (some ⟨g, 0, none⟩) n c) (R.set i q) ∧ ∀ w0, Below B w0 w → Below B w0 (w.setCell ⟨g, i, none⟩ (.int .u8 q)) := by
  have hn : n = R.length := by
    rcases h.2 with ⟨e, _⟩ | ⟨g', c', _, e, _⟩
    · cases e
    · injection e
  subst hn
  have hc := h.cells (g := g) rfl i (.int .u8 x) (by simp [byteVals, hx])
  rw [Addr.add_mid, Nat.zero_add] at hc
  refine ⟨hc, ?_, fun q => ⟨?_, fun w0 hb => hb.setCell (h.lt g rfl).1 _⟩⟩
  · rcases h.2 with ⟨e, _⟩ | ⟨g', c', cur, e, _, hg, _⟩
    · cases e
    · injection e with e; injection e with e; injection e with e
      subst e
      exact frozen_of_row _ _ _ _ _ hg
  · have h2 := (h.stored i (.int .u8 q)).1
    have e : (byteVals R).set i (.int .u8 q) = byteVals (R.set i q) := by simp [byteVals, List.map_set]
    rw [e] at h2
    have h3 := owns_in (xs := R.set i q) (by rw [List.length_set]; exact h2) (by rw [List.length_set]; unfold maxLen; omega)
    exact h3
set_option maxHeartbeats 4000000 in
theorem spoilt_any (y : Value) (xs : List Int) (at' : Int) (z : Nat) (w : World) (hy : BytesIn w y xs) (ho : bytesOk xs) (hl : xs.length ≤ 140737488351232) (hz : z < 256) (hT : NibAt w) (hE : ErrType w) :
    Calls Tryd.prog 5 #[y, .int .i64 at', .int .u8 (z : Int)] w fun e w' => e = .returned (.bool true) ∧ Below w.heap.size w w' := by
  have HT := Lib.hid hT
  have HE := Lib.hid hE
  have HY := Lib.hid hy
  have HO := Lib.hid ho
  have HL := Lib.hid hl
  have HB0 := Lib.hid (Below.refl w.heap.size w)
  obtain ⟨a, c, rfl, hc, hm, hx⟩ := id hy
  clear hT hE hy ho hx hm hc
  by_cases h0 : xs.length = 0
  · have HX := Lib.hid h0
    clear h0
    go_enter Tryd.func5, Tryd.ntmps5
    go_wp2_with (first
      | (go_at_call 7; (with_reducible refine (sp_twin _ xs w w HY.out HL.out HB0.out).mono ?_); rintro e w1 ⟨v1, rfl, h1, hb1⟩; have H1 := Lib.hid h1; have HB1 := Lib.hid hb1; clear h1 hb1)
      | (go_at_call 8; (with_reducible refine (frame_nil v1 xs w1 H1.out HX.out).mono ?_); rintro e w2 ⟨rfl, rfl⟩)
      | (go_at_call 19; (with_reducible refine (sp_sure w w1 (HT.out.below HB1.out HT.out.lt) HB1.out).mono ?_); rintro e w3 ⟨rfl, hb3⟩; have HB3 := Lib.hid hb3; clear hb3))
    go_ret
    exact ⟨rfl, HB3.out⟩
  by_cases hbig : 1048576 < xs.length
  · clear h0
    have HX := Lib.hid hbig
    clear hbig
    go_enter Tryd.func5, Tryd.ntmps5
    go_wp2_with (first
      | (go_at_call 7; (with_reducible refine (sp_twin _ xs w w HY.out HL.out HB0.out).mono ?_); rintro e w1 ⟨v1, rfl, h1, hb1⟩; have H1 := Lib.hid h1; have HB1 := Lib.hid hb1; clear h1 hb1)
      | (go_at_call 8; (with_reducible refine (frame_long v1 xs w1 H1.out HX.out).mono ?_); rintro e w2 ⟨rfl, rfl⟩)
      | (go_at_call 19; (with_reducible refine (sp_sure w w1 (HT.out.below HB1.out HT.out.lt) HB1.out).mono ?_); rintro e w3 ⟨rfl, hb3⟩; have HB3 := Lib.hid hb3; clear hb3))
    go_ret
    exact ⟨rfl, HB3.out⟩
  have HX0 := Lib.hid h0
  have HX1 := Lib.hid (show xs.length ≤ 1048576 by omega)
  clear h0 hbig
  by_cases hz0 : z = 0
  · subst hz0
    go_enter Tryd.func5, Tryd.ntmps5
    go_wp2_with (first
      | (go_at_call 7; (with_reducible refine (sp_twin _ xs w w HY.out HL.out HB0.out).mono ?_); rintro e w1 ⟨v1, rfl, h1, hb1⟩; have H1 := Lib.hid h1; have HB1 := Lib.hid hb1; clear h1 hb1)
      | (go_at_call 8; (with_reducible refine (sp_frame v1 xs w w1 (HT.out.below HB1.out HT.out.lt) H1.out HO.out HX0.out HX1.out HB1.out).mono ?_); rintro e w2 ⟨g, c2, rfl, h2, hb2⟩; have H2 := Lib.hid h2; have HB2 := Lib.hid hb2; clear h2 hb2)
      | (go_at_call 19; (with_reducible refine (sp_sure w w2 (HT.out.below HB2.out HT.out.lt) HB2.out).mono ?_); rintro e w3 ⟨rfl, hb3⟩; have HB3 := Lib.hid hb3; clear hb3))
    go_ret
    exact ⟨rfl, HB3.out⟩
  have hz1 : ((z : Int) == 0) = false := by simp; omega
  have HZ := Lib.hid hz0
  clear hz0
  by_cases hbig : 100000 < xs.length
  · have hg : decide ((100000 : Int) < (xs.length : Int)) = true := by simp; omega
    clear hbig
    go_enter Tryd.func5, Tryd.ntmps5
    go_wp2_with (first
      | (go_at_call 7; (with_reducible refine (sp_twin _ xs w w HY.out HL.out HB0.out).mono ?_); rintro e w1 ⟨v1, rfl, h1, hb1⟩; have H1 := Lib.hid h1; have HB1 := Lib.hid hb1; clear h1 hb1)
      | (go_at_call 8; (with_reducible refine (sp_frame v1 xs w w1 (HT.out.below HB1.out HT.out.lt) H1.out HO.out HX0.out HX1.out HB1.out).mono ?_); rintro e w2 ⟨g, c2, rfl, h2, hb2⟩; have H2 := Lib.hid h2; have HB2 := Lib.hid hb2; clear h2 hb2)
      | (go_at_call 19; (with_reducible refine (sp_sure w w2 (HT.out.below HB2.out HT.out.lt) HB2.out).mono ?_); rintro e w3 ⟨rfl, hb3⟩; have HB3 := Lib.hid hb3; clear hb3))
    go_ret
    exact ⟨rfl, HB3.out⟩
  have hg : decide ((100000 : Int) < (xs.length : Int)) = false := by simp; omega
  have HSP := Lib.hid (fun i x y hx hy hne => oneF_spoilt xs i x y HO.out HX0.out HX1.out hx hy hne)
  have HRO := Lib.hid (recF_ok HO.out)
  have HF := Lib.hid (fun y w1 hT hy hb => sp_frame y xs w w1 hT hy HO.out HX0.out HX1.out hb)
  unfold SpF at HF
  have hNl : (recF xs).length ≤ 100012 := by rw [recF_length]; omega
  have hN0 : ¬ (recF xs).length = 0 := by rw [recF_length]; omega
  clear hbig HX0 HX1
  generalize hR : recF xs = R at *
  clear hR
  obtain ⟨m, e1⟩ : ∃ m : Nat, IntKind.u64.wrap at' = (m : Int) := ⟨(at' % 18446744073709551616).toNat, by rw [IntKind.wrap_u64]; omega⟩
  obtain ⟨i, hi, e2, e3⟩ : ∃ i : Nat, i < R.length ∧ (m : Int).tmod (R.length : Int) = (i : Int) ∧ (m : Int) % (R.length : Int) = (i : Int) :=
    ⟨m % R.length, Nat.mod_lt _ (by omega), by rw [Int.tmod_eq_emod_of_nonneg (by omega)]; exact (Int.natCast_emod _ _).symm, (Int.natCast_emod _ _).symm⟩
  have hr0 : ((R.length : Int) == 0) = false := by simp; intro h; exact hN0 (by rw [h]; rfl)
  obtain ⟨x, hx⟩ : ∃ x, R[i]? = some x := ⟨_, List.getElem?_eq_getElem hi⟩
  have hxo := HRO.out x (List.mem_of_getElem? hx)
  obtain ⟨u, rfl⟩ : ∃ u : Nat, x = (u : Int) := ⟨x.toNat, by omega⟩
  have e4 := u8_xor_nat u z (by omega) hz
  have hq : u ^^^ z < 256 := Nat.xor_lt_two_pow (n := 8) (by omega) hz
  have hne : u ≠ u ^^^ z := fun h => HZ.out (by
    have h1 : 0 ^^^ u = z ^^^ u := by rw [Nat.zero_xor, Nat.xor_comm z u]; exact h
    exact (xor_cancel h1).symm)
  have HSX := Lib.hid (HSP.out i u ((u ^^^ z : Nat) : Int) hx ⟨by omega, by omega⟩ (by omega))
  have HRS := Lib.hid (HRO.out.set i ((u ^^^ z : Nat) : Int) ⟨by omega, by omega⟩)
  have HX := Lib.hid hx
  have HNL := Lib.hid hNl
  have HN0 := Lib.hid hN0
  clear hx hxo hne HSP HRO
  generalize u ^^^ z = q at *
  have hnot : ∀ (x : Bool) (w : World), (Op.unary .not (.bool x)).run Tryd.prog w = .ok (.bool (!x)) w := fun _ _ => rfl
  have HTF := Lib.hid (torn_num 11 false (by decide))
  go_enter Tryd.func5, Tryd.ntmps5
  go_wp2_with (first
    | (go_at_call 7; (with_reducible refine (sp_twin _ xs w w HY.out HL.out HB0.out).mono ?_); rintro e w1 ⟨v1, rfl, h1, hb1⟩; have H1 := Lib.hid h1; have HB1 := Lib.hid hb1; clear h1 hb1)
    | (go_at_call 8; (with_reducible refine (HF.out v1 w1 (HT.out.below HB1.out HT.out.lt) H1.out HB1.out).mono ?_); rintro e w2 ⟨g, c2, rfl, h2, hb2⟩; obtain ⟨hcell, hfr, hset⟩ := sp_row h2 (by have := HNL.out; omega) i u HX.out; have HS2 := Lib.hid hset; have HB2 := Lib.hid hb2; clear h2 hb2 hset)
    | (go_at_call 10; have HI := Lib.hid (HS2.out (q : Int)).1; have HB3 := Lib.hid ((HS2.out (q : Int)).2 w HB2.out); (with_reducible refine (sp_one _ _ w _ (HT.out.below HB3.out HT.out.lt) HI.out HRS.out (by rw [List.length_set]; have := HNL.out; omega) HSX.out HB3.out).mono ?_); rintro e w4 ⟨rfl, hb4, hb34⟩; replace HI := Lib.hid (HI.out.below hb34); have HB4 := Lib.hid hb4; clear hb4 hb34 hcell hfr)
    | (go_at_call 12; (with_reducible refine (sp_scan _ _ w w4 (HT.out.below HB4.out HT.out.lt) HI.out HRS.out (by rw [List.length_set]; have := HNL.out; omega) (by rw [List.length_set]; exact HN0.out) HSX.out HB4.out).mono ?_); rintro e w5 ⟨a5, c5, rfl, hb5⟩; have HB5 := Lib.hid hb5; clear hb5)
    | (go_at_call 14; (with_reducible refine (sp_num w _ (HE.out.below HB5.out) HB5.out).mono ?_); rintro e w6 ⟨rfl, hb6⟩; replace HB5 := Lib.hid hb6; clear hb6)
    | (go_at_call 16; (with_reducible refine (HTF.out _).mono ?_); rintro e w7 ⟨rfl, rfl⟩)
    | (go_at_call 19; (with_reducible refine (sp_sure w _ (HT.out.below HB5.out HT.out.lt) HB5.out).mono ?_); rintro e w8 ⟨rfl, hb8⟩; have HB8 := Lib.hid hb8; clear hb8))
  go_ret
  exact ⟨rfl, HB8.out⟩
theorem spoilt_lift (a : Option Addr) (len cap : Nat) (xs : List Int) (hl : xs.length = len) (at' z : Int) (h0 : 0 ≤ z) (h1 : z < 256) (w : World) (hy : BytesIn w (.slice a len cap) xs) (ho : bytesOk xs) (hlen : len ≤ 140737488351232) (hT : NibAt w) (hE : ErrType w) :
    Calls Tryd.prog 5 #[.slice a len cap, .int .i64 at', .int .u8 z] w fun e w' => e = .returned (.bool true) ∧ Below w.heap.size w w' := by
  obtain ⟨n, rfl⟩ : ∃ n : Nat, z = (n : Int) := ⟨z.toNat, by omega⟩
  exact spoilt_any _ xs at' n w hy ho (by omega) (by omega) hT hE
end Go.Proofs.YtfdjmfomccckaaaDoor

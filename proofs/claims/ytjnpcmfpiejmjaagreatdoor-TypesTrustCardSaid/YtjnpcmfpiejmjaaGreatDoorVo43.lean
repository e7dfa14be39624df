/- Part 43 of the proof. -/
import Derived.Test.YtjnpcmfpiejmjaaGreatDoorVo41
import Derived.Test.YtjnpcmfpiejmjaaGreatDoorVo42
namespace Go.Proofs.YtjnpcmfpiejmjaaGreatDoor
set_option linter.unusedVariables false
set_option linter.unusedSimpArgs false
open Go.RowKit
set_option maxRecDepth 1000000
set_option linter.unusedSimpArgs false
set_option linter.unusedVariables false
theorem anyT_impT {P : Program} {ops : Array Oper} {Q : Exit → Act → World → Prop} {md : Region.Mode} {S S' : World → Prop} {ds : List Nat} (h : ∀ w, S' w → S w) : ∀ (f : Nat) (l : Array Bool) (a : Act) (w : World), anyT P md ops Q S' ds f l a w → anyT P md ops Q S ds f l a w
  | 0, _, _, _, k => k
  | f + 1, _, _, _, k => ⟨k.1, fun i hi => wpOp_mono (fun a' w' h' => ⟨fun hd => h _ (h'.1 hd), anyT_impT h f _ a' w' h'.2⟩) (k.2 i hi)⟩
theorem anyT_kpT {P : Program} {ops : Array Oper} {Q : Exit → Act → World → Prop} {md : Region.Mode} {X Y : World → Prop} {ds : List Nat} {w0 : World} (kx : Kept X) {f : Nat} {l : Array Bool} {a : Act} {w : World}
    (h : anyT P md ops Q (fun w' => Kp w0 w' (fun w => X w ∧ Y w)) ds f l a w) : anyT P md ops Q (fun w' => Kp w0 w' X) ds f l a w :=
  anyT_impT (fun _ k => ⟨k.below, k.x.1, kx⟩) _ _ _ _ h
theorem kept_bytesT (v : Value) (xs : List Int) : Kept (fun w => BytesIn w v xs) := fun _ _ h hb => h.below hb
/-- what came in, in memory -/
structure TrX (g3 g4 : Nat) (chain : ByteArray) (D E : Int) (c : Cm) (lv vx : Value) (l : List Va) (xs : List Vo) (w : World) : Prop where
  h3 : w.heap[g3]? = some (.cells (csC chain lv D E) 44 (0, 0))
  h4 : w.heap[g4]? = some (.cells (cmC c vx) 59 (0, 0))
  l : VaIn w lv l
  x : VoIn w vx xs
  sx : ∀ t ∈ xs, BytesIn w t.sv t.sign
theorem kept_trx (g3 g4 : Nat) (chain : ByteArray) (D E : Int) (c : Cm) (lv vx : Value) (l : List Va) (xs : List Vo) : Kept (TrX g3 g4 chain D E c lv vx l xs) := fun a b m h =>
  ⟨kept_blk _ _ _ _ m.h3 h, kept_blk _ _ _ _ m.h4 h, m.l.below h, m.x.below h, fun t ht => (m.sx t ht).below h⟩
theorem upd_ok {AP : Nat → Int} {b : Int} (h : byOk AP) (hb : 0 ≤ b ∧ b < 256) : byOk (upd AP 0 b) := fun i hi => by
  unfold upd
  split
  · exact hb
  · exact h i hi
theorem upd_zero (AP : Nat → Int) (b : Int) : upd AP 0 b 0 = b := by simp [upd]
theorem hdD_setTime (CH : ByteArray) (HT TM TN : Int) (LA AP TX VA NX : Nat → Int) (PR : Int) : (hdD CH HT TM LA AP TX VA NX PR).setIfInBounds 2 (.int .i64 TN) = hdD CH HT TN LA AP TX VA NX PR := by
  apply Array.toList_inj.1
  simp [hdD, Array.toList_setIfInBounds]
theorem hdD_setApp (CH : ByteArray) (HT TM b : Int) (LA AP TX VA NX : Nat → Int) (PR : Int) : (hdD CH HT TM LA AP TX VA NX PR).setIfInBounds 35 (.int .u8 b) = hdD CH HT TM LA (upd AP 0 b) TX VA NX PR := by
  have e1 : ∀ (x v : Value) (A : Array Value) (i : Nat), (#[x] ++ A).setIfInBounds (i + 1) v = #[x] ++ A.setIfInBounds i v := fun x v A i => by
    rw [Array.setIfInBounds_append_right (by simp)]; rfl
  have e2 : ∀ (v : Value) (A : Array Value), (rowOf .u8 32 LA ++ A).setIfInBounds 32 v = rowOf .u8 32 LA ++ A.setIfInBounds 0 v := fun v A => by
    rw [Array.setIfInBounds_append_right (by rw [rowOf_size]; omega), rowOf_size]
  unfold hdD
  rw [← rowOf_set, e1, e1, e1, e2, Array.setIfInBounds_append_left (by rw [rowOf_size]; omega)]
theorem hdD_one (CH : ByteArray) (HT TM : Int) (LA AP TX VA NX : Nat → Int) (PR : Int) : (hdD CH HT TM LA AP TX VA NX PR).all (·.oneCell') = true := by
  unfold hdD
  simp only [Array.all_append, rowOf_one]
  simp [Value.oneCell']
/-- the header, and the two that differ, in memory -/
structure TrY (g5 g8 g9 : Nat) (CH : ByteArray) (HT TM TN : Int) (LA AP AQ TX VA NX : Nat → Int) (PR : Int) (w : World) : Prop where
  h5 : w.heap[g5]? = some (.cells (hdD CH HT TM LA AP TX VA NX PR) 55 (0, 0))
  h8 : w.heap[g8]? = some (.cells (hdD CH HT TN LA AP TX VA NX PR) 55 (0, 0))
  h9 : w.heap[g9]? = some (.cells (hdD CH HT TM LA AQ TX VA NX PR) 55 (0, 0))
theorem kept_try (g5 g8 g9 : Nat) (CH : ByteArray) (HT TM TN : Int) (LA AP AQ TX VA NX : Nat → Int) (PR : Int) : Kept (TrY g5 g8 g9 CH HT TM TN LA AP AQ TX VA NX PR) := fun a b m h =>
  ⟨kept_blk _ _ _ _ m.h5 h, kept_blk _ _ _ _ m.h8 h, kept_blk _ _ _ _ m.h9 h⟩
end Go.Proofs.YtjnpcmfpiejmjaaGreatDoor

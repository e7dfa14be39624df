/- Sum: the checksum of a slice of bytes. -/
import Derived.Test.YtfdjmfomccckaaaDoorApp
import Derived.Test.YtfdjmfomccckaaaDoorCrc
namespace Go.Proofs.YtfdjmfomccckaaaDoor
open Go.RowKit
set_option maxRecDepth 100000
/-- the table of package frame, as it is laid -/
def NibAt (w : World) : Prop := ∀ i, i < 16 → w.cell? ⟨0, i, none⟩ = some (.int .u32 ((tabN i : Nat) : Int))
theorem NibAt.lt {w : World} (h : NibAt w) : 0 < w.heap.size := World.block_lt_of_cell? w _ (h 0 (by decide))
theorem NibAt.below {w w' : World} {B : Nat} (h : NibAt w) (hb : Below B w w') (hB : 0 < B) : NibAt w' := fun i hi => (hb.cell (p := ⟨0, i, none⟩) hB).trans (h i hi)
theorem NibAt.only {p : Nat} {w w' : World} (h : NibAt w) (ho : Only p w w') (hp : 0 < p) : NibAt w' := fun i hi => ho.cell (h i hi) (show 0 ≠ p by omega)
theorem BytesIn.cell {w : World} {a : Option Addr} {n cap : Nat} {xs : List Int} (h : BytesIn w (.slice a n cap) xs) : n = xs.length ∧ (xs = [] ∨ ∃ ab ao, a = some ⟨ab, ao, none⟩ ∧ ∀ i x, xs[i]? = some x → w.cell? ⟨ab, ao + i, none⟩ = some (.int .u8 x)) := by
  obtain ⟨a', c', e, _, _, hx⟩ := h
  injection e with e1 e2 e3
  subst e1 e2
  exact ⟨rfl, hx⟩
theorem regF_snoc (r : Nat) (xs : List Int) (x : Int) : regF r (xs ++ [x]) = byteS (regF r xs) x.toNat := by rw [regF_append]; rfl
theorem take_snoc {xs : List Int} {k : Nat} {x : Int} (h : xs[k]? = some x) : xs.take (k + 1) = xs.take k ++ [x] := by
  rw [List.take_add_one, h]; rfl
theorem nib_and (m : Nat) (h : m < 4294967296) : bits .and .u32 (m : Int) 15 = ((m % 16 : Nat) : Int) := by
  have := u32_and_nat m 15 h (by decide)
  rw [show m &&& 15 = m % 16 from Nat.and_two_pow_sub_one_eq_mod m 4] at this
  exact this
theorem nib_not (m : Nat) (h : m < 4294967296) : bits .xor .u32 IntKind.u32.max (m : Int) = ((4294967295 ^^^ m : Nat) : Int) := u32_xor_nat 4294967295 m (by decide) h
set_option maxHeartbeats 1000000 in
theorem sumc_any (y : Value) (ys : List Int) (w : World) (hT : NibAt w) (hy : BytesIn w y ys) (ho : bytesOk ys) (hl : ys.length ≤ 140737488355328) :
    Calls Tryd.prog 17 #[y] w fun e w' => e = .returned (.int .u32 ((crcF ys : Nat) : Int)) ∧ w = w' := by
  have HY := Lib.hid hy
  have HT := Lib.hid hT
  have HO := Lib.hid ho
  obtain ⟨a, c, rfl, hc, hm, hx⟩ := hy
  have HX := Lib.hid hx
  clear hT ho hx hm hc
  go_enter Tryd.func17, Tryd.ntmps17
  go_wp2
  go_loop [3, 8] (fun r i => ∃ k : Nat, k ≤ ys.length ∧ i = .int .i64 k ∧ r = .int .u32 ((regF 4294967295 (ys.take k) : Nat) : Int)) (fun _ i => ys.length - (intOf i).toNat)
  case atStart => exact ⟨0, Nat.zero_le _, rfl, rfl⟩
  case round =>
    obtain ⟨k, hk, rfl, rfl⟩ := hrel
    by_cases hlt : k < ys.length
    · obtain ⟨x, hxk⟩ : ∃ x, ys[k]? = some x := ⟨_, List.getElem?_eq_getElem hlt⟩
      have hxo := HO.out x (List.mem_of_getElem? hxk)
      rcases HX.out with h0 | ⟨ab, ao, rfl, hx⟩
      · rw [h0] at hlt; simp at hlt
      · have hcell := hx k x hxk
        have HS := Lib.hid (show regF 4294967295 (ys.take (k + 1)) = byteS (regF 4294967295 (ys.take k)) x.toNat by rw [take_snoc hxk, regF_snoc])
        have hr := regF_lt (ys.take k) 4294967295 (by decide) (HO.out.take k)
        obtain ⟨z, rfl⟩ : ∃ z : Nat, x = (z : Int) := ⟨x.toNat, by omega⟩
        have hz : z < 256 := by omega
        clear hx hxo hxk
        generalize regF 4294967295 (ys.take k) = r at *
        have e1 := u32_xor_nat r z hr (by omega)
        have l1 : r ^^^ z < 4294967296 := xor_lt32 hr (by omega)
        have HB := Lib.hid (show byteS r z = nib (nib (r ^^^ z)) from rfl)
        generalize r ^^^ z = m at *
        have e2 := nib_and m l1
        have e3 := u32_xor_nat (m / 16) (tabN (m % 16)) (by omega) (tabN_lt _ (by omega))
        have l3 : nib m < 4294967296 := nib_lt l1
        have HN := Lib.hid (show nib m = m / 16 ^^^ tabN (m % 16) from rfl)
        rw [← HN.out] at e3
        have c2 := HT.out (m % 16) (by omega)
        have b2 : m % 16 < 16 := by omega
        generalize nib m = m2 at *
        have e4 := nib_and m2 l3
        have e5 := u32_xor_nat (m2 / 16) (tabN (m2 % 16)) (by omega) (tabN_lt _ (by omega))
        have c4 := HT.out (m2 % 16) (by omega)
        have b4 : m2 % 16 < 16 := by omega
        have HM := Lib.hid (show nib m2 = m2 / 16 ^^^ tabN (m2 % 16) from rfl)
        generalize m % 16 = p at *
        generalize m2 % 16 = q at *
        clear HN
        rw [show ((m / 16 : Nat) : Int) = (m : Int) / 16 by omega] at e3
        rw [show ((m2 / 16 : Nat) : Int) = (m2 : Int) / 16 by omega] at e5
        go_wp2
        go_round
        case rel => exact ⟨k + 1, by omega, by go_num, by rw [HS.out, Int.toNat_natCast, HB.out, ← HM.out]⟩
        case measure => simp [intOf]; omega
    · have HK := Lib.hid (show k = ys.length by omega)
      have hr := regF_lt (ys.take k) 4294967295 (by decide) (HO.out.take k)
      have hn := nib_not _ hr
      have HC := Lib.hid (show crcF ys = 4294967295 ^^^ regF 4294967295 (ys.take k) by rw [HK.out, List.take_length]; rfl)
      rw [← HC.out] at hn
      go_wp2
      go_ret
      exact ⟨rfl, rfl⟩
end Go.Proofs.YtfdjmfomccckaaaDoor

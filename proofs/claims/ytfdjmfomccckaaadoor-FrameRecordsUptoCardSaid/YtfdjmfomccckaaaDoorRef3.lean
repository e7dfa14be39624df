/- The document's answer: Sum, four, Frame. -/
import Derived.Test.YtfdjmfomccckaaaDoorFrame
import Derived.Test.YtfdjmfomccckaaaDoorBitMath
import Derived.Test.YtfdjmfomccckaaaDoorStr
namespace Go.Proofs.YtfdjmfomccckaaaDoor
open Go.RowKit
set_option maxRecDepth 100000
theorem ret_int {k : IntKind} {a b : Int} (h : a = b) : Ending.returned (.int k a) = .returned (.int k b) := by rw [h]
set_option maxHeartbeats 1000000 in
theorem sumr_any (y : Value) (ys : List Int) (w : World) (hy : BytesIn w y ys) (ho : bytesOk ys) (hl : ys.length ≤ 140737488355328) :
    Calls Tryd.prog 18 #[y] w fun e w' => e = .returned (.int .u32 ((crcF ys : Nat) : Int)) ∧ w = w' := by
  have HO := Lib.hid ho
  obtain ⟨a, c, rfl, hc, hm, hx⟩ := hy
  have HX := Lib.hid hx
  clear ho hx hm hc
  go_enter Tryd.func18, Tryd.ntmps18
  go_wp2
  go_loop [3, 4] (fun r i => ∃ k : Nat, k ≤ ys.length ∧ i = .int .i64 k ∧ r = .int .u32 ((regF 4294967295 (ys.take k) : Nat) : Int)) (fun _ i => ys.length - (intOf i).toNat)
  case atStart => exact ⟨0, Nat.zero_le _, rfl, rfl⟩
  case round =>
    obtain ⟨k, hk, rfl, rfl⟩ := hrel
    by_cases hlt : k < ys.length
    · obtain ⟨x, hxk⟩ : ∃ x, ys[k]? = some x := ⟨_, List.getElem?_eq_getElem hlt⟩
      have hxo := HO.out x (List.mem_of_getElem? hxk)
      rcases HX.out with h0 | ⟨ab, ao, rfl, hx⟩
      · rw [h0] at hlt; simp at hlt
      · have hcell := hx k x hxk
        have HS := Lib.hid (show regF 4294967295 (ys.take (k + 1)) = byteS (regF 4294967295 (ys.take k)) x.toNat by rw [take_snoc hxk, regF_snoc])
        have hr := regF_lt (ys.take k) 4294967295 (by decide) (HO.out.take k)
        obtain ⟨z, rfl⟩ : ∃ z : Nat, x = (z : Int) := ⟨x.toNat, by omega⟩
        have hz : z < 256 := by omega
        clear hx hxo hxk
        generalize regF 4294967295 (ys.take k) = r at *
        have e1 := u32_xor_nat r z hr (by omega)
        have hm : r ^^^ z < 4294967296 := xor_lt32 hr (by omega)
        have HB := Lib.hid (bitN_byte r z)
        generalize r ^^^ z = m at *
        have HMI := Lib.hid (show (m : Int) = ((bitN 0 m : Nat) : Int) from rfl)
        go_wp2
        go_loop [3, 5] (fun x i => ∃ t : Nat, t ≤ 8 ∧ i = .int .i64 t ∧ x = .int .u32 ((bitN t m : Nat) : Int)) (fun _ i => 8 - (intOf i).toNat)
        case atStart => exact ⟨0, by omega, rfl, rfl⟩
        case round =>
          obtain ⟨t, ht, rfl, rfl⟩ := hrel
          by_cases ht8 : t < 8
          · have hI : (t : Int) < 8 := by omega
            have hb := bitN_lt t hm
            have HN := Lib.hid (show bitN (t + 1) m = bitS (bitN t m) from rfl)
            generalize bitN t m = b at *
            rcases Nat.mod_two_eq_zero_or_one b with hp | hp
            · have HV := Lib.hid (show bitS b = b / 2 by unfold bitS; rw [if_neg (by omega)])
              have ep : (b : Int) % 2 = 0 := by omega
              replace hp := Lib.hid hp
              go_wp2
              go_round
              case rel => exact ⟨t + 1, by omega, by go_num, by rw [HN.out, HV.out]; rfl⟩
              case measure => simp [intOf]; omega
            · have HV := Lib.hid (show bitS b = b / 2 ^^^ 3988292384 by unfold bitS; rw [if_pos hp])
              have ep : (b : Int) % 2 = 1 := by omega
              have ex := u32_xor_nat (b / 2) 3988292384 (by omega) (by decide)
              rw [show ((b / 2 : Nat) : Int) = (b : Int) / 2 by omega] at ex
              replace hp := Lib.hid hp
              go_wp2
              go_round
              case rel => exact ⟨t + 1, by omega, by go_num, by rw [HN.out, HV.out]; first | exact congrArg _ ex | (rw [← ex]; rfl)⟩
              case measure => simp [intOf]; omega
          · have H8 := Lib.hid (show t = 8 by omega)
            go_wp2
            go_round
            case rel => exact ⟨k + 1, by omega, by go_num, by rw [H8.out, HB.out, HS.out, Int.toNat_natCast]⟩
            case measure => simp [intOf]; omega
    · have HK := Lib.hid (show k = ys.length by omega)
      have hr := regF_lt (ys.take k) 4294967295 (by decide) (HO.out.take k)
      have HC := Lib.hid (show crcF ys = 4294967295 - regF 4294967295 (ys.take k) by rw [HK.out, List.take_length]; exact crc_sub _ (regF_lt ys _ (by decide) HO.out))
      generalize regF 4294967295 (ys.take k) = r at *
      go_wp2
      go_ret
      exact ⟨ret_int (show (4294967295 - (r : Int)) = _ by rw [HC.out]; omega), rfl⟩
set_option maxHeartbeats 1000000 in
theorem four_any (n : Nat) (w : World) (hn : n < 4294967296) : Calls Tryd.prog 21 #[.int .u32 (n : Int)] w fun e w' => ∃ v', e = .returned v' ∧ w'.ownsRow w.heap.size 5 1 v' (wordL n).length (byteVals (wordL n)) ∧ Below w.heap.size w w' := by
  go_enter Tryd.func21, Tryd.ntmps21
  go_wp2
  go_ret
  refine ⟨_, rfl, ?_, below_alloc w _⟩
  have h := World.ownsRow_lit (w := w) (base := w.heap.size) (e := 5) (size := 1) (byteVals (wordL n)).toArray 4 (Nat.le_refl _) (by simp [maxLen]) rfl
  rw [← wordI n hn] at h ⊢
  exact h
end Go.Proofs.YtfdjmfomccckaaaDoor

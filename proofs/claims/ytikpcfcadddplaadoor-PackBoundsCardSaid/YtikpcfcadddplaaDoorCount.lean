/- Count of a Reader. -/
import Derived.Test.YtikpcfcadddplaaDoorPart
namespace Go.Proofs.YtikpcfcadddplaaDoor
open Go.RowKit
set_option maxRecDepth 100000
/-- a varint of at most n whose number is at most the number of bytes behind it (only what PackBounds needs: no error so far, the varint fits) -/
theorem count_any (q n : Nat) (r : List Int) (most : Nat) (w : World) (hn : n < 9223372036854775808) (hmm : most ≤ 9223372036854775807) (hr : n ≤ r.length) (h : RS w q (varint n ++ r, none)) (hrd : rdF (varint n ++ r) most = (n, glen n, none)) :
    Calls Tryd.prog 18 #[.pointer (some ⟨q, 0, none⟩), .int .i64 (most : Int)] w fun e w' => e = .returned (.int .i64 (n : Int)) ∧ RS w' q (r, none) ∧ Only q w w' := by
  obtain ⟨y, h⟩ := h
  change RAt w q y (varint n ++ r) none at h
  have hc1 := h.cell1
  have HE := Lib.hid (err_any q y _ none w h)
  have hc0 := h.cell0
  obtain ⟨a, c, rfl, hle⟩ := h.wide
  have HV := varint_any _ (varint n ++ r) most w h.in_ h.ok
  rw [hrd] at HV
  have ht := take_any q _ _ none (glen n) w h (by rw [List.length_append, varint_length]; omega)
  have hdr : (varint n ++ r).drop (glen n) = r := by rw [← varint_length n]; exact List.drop_left
  rw [hdr] at ht
  have hl : (varint n ++ r).length = glen n + r.length := by rw [List.length_append, varint_length]
  have hll := h.le
  generalize (varint n ++ r) = xs at *
  rw [tripV_of _ _ rfl] at HV
  simp only [errV] at HE HV hc0
  replace HV := Lib.hid HV
  replace ht := Lib.hid ht
  have hmx : ((max most 0 : Nat) : Int) = max (most : Int) 0 := by omega
  clear h hdr hrd
  generalize glen n = size at *
  have hgt : ¬ (((xs.length : Int) - size) < n) := by omega
  have hsz : size ≤ xs.length := by omega
  have hwn : IntKind.i64.wrap (n : Int) = n := by rw [IntKind.wrap_i64]; omega
  replace hl := Lib.hid hl
  go_enter Tryd.func18, Tryd.ntmps18
  go_wp2_with (first
    | (go_at_call 11; (with_reducible refine HE.out.mono ?_); rintro e w2 ⟨rfl, rfl⟩)
    | (go_at_call 21; (with_reducible refine HV.out.mono ?_); rintro e w2 ⟨rfl, rfl⟩)
    | (go_at_call 22; (with_reducible refine ht.out.mono ?_); rintro e w3 ⟨a1, c1, y1, rfl, _, _, hr1, ho1, _⟩; replace hr1 := Lib.hid hr1; replace ho1 := Lib.hid ho1))
  go_ret
  exact ⟨rfl, ⟨_, hr1.out⟩, ho1.out⟩
end Go.Proofs.YtikpcfcadddplaaDoor

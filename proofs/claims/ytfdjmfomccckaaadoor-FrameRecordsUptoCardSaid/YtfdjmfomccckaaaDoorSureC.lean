/- sure: the document's example of a record; the checksum of nine digits. -/
import Derived.Test.YtfdjmfomccckaaaDoorOne
import Derived.Test.YtfdjmfomccckaaaDoorStr
namespace Go.Proofs.YtfdjmfomccckaaaDoor
open Go.RowKit
set_option maxRecDepth 100000
theorem crc_nine : crcF [49, 50, 51, 52, 53, 54, 55, 56, 57] = 3421780262 := by kernel_rfl
theorem lit_in (w : World) (xs : List Int) (fr : Nat × Nat) (hl : xs.length ≤ maxLen) : BytesIn (w.alloc (.cells (byteVals xs).toArray 5 fr)) (.slice (some ⟨w.heap.size, 0, none⟩) xs.length xs.length) xs := by
  refine ⟨_, _, rfl, Nat.le_refl _, hl, .inr ⟨_, _, rfl, fun i x hi => ?_⟩⟩
  rw [Nat.zero_add, cell_of_row _ _ _ _ _ _ (heap_alloc_new w _)]
  simp [byteVals, hi]
theorem lit1_in (w : World) : BytesIn (w.alloc (.cells #[.int .u8 97] 5 (1, 2))) (.slice (some ⟨w.heap.size, 0, none⟩) 1 1) [97] := lit_in w [97] (1, 2) (by decide)
theorem lit9_in (w : World) : BytesIn (w.alloc (.cells #[.int .u8 49, .int .u8 50, .int .u8 51, .int .u8 52, .int .u8 53, .int .u8 54, .int .u8 55, .int .u8 56, .int .u8 57] 5 (9, 10))) (.slice (some ⟨w.heap.size, 0, none⟩) 9 9) [49, 50, 51, 52, 53, 54, 55, 56, 57] := lit_in w [49, 50, 51, 52, 53, 54, 55, 56, 57] (9, 10) (by decide)
theorem nine_ok : bytesOk [49, 50, 51, 52, 53, 54, 55, 56, 57] := by intro x hx; simp at hx; omega
theorem one_ok : bytesOk [97] := by intro x hx; simp at hx; omega
/-- Frame of one byte -/
def Sure1 (w : World) (e : Ending) (w' : World) : Prop := ∃ v' a c, v' = .slice a 13 c ∧ e = .returned (.tuple #[v', .nilIface]) ∧ BytesIn w' v' (recF [97]) ∧ Below w.heap.size w w'
theorem sure_frame (y : Value) (w : World) (hT : NibAt w) (hy : BytesIn w y [97]) : Calls Tryd.prog 8 #[y] w (Sure1 w) := by
  refine (frame_ok y [97] w hT hy one_ok (by decide) (by decide)).mono fun e w' h => ?_
  obtain ⟨v', he, ho, hb⟩ := h
  obtain ⟨a, c, rfl⟩ := owns_wide ho
  exact ⟨_, a, c, by rw [recF_length]; rfl, he, owns_in ho (by rw [recF_length]; decide), hb⟩
def Sure2 (w : World) (e : Ending) (w' : World) : Prop := ∃ v', e = .returned (.tuple #[v', .int .i64 13, .nilIface]) ∧ BytesIn w' v' [97] ∧ Below w.heap.size w w'
theorem oneF_a : oneF (recF [97]) = (none, [97]) := by
  have := oneF_rec [97] [] one_ok (by decide) (by decide)
  rwa [List.append_nil] at this
theorem sure_one (y : Value) (w : World) (hT : NibAt w) (hy : BytesIn w y (recF [97])) : Calls Tryd.prog 10 #[y] w (Sure2 w) := by
  have h := one_any y (recF [97]) w hT hy (recF_ok one_ok) (by rw [recF_length]; decide)
  rw [oneF_a] at h
  refine h.mono fun e w' h => ?_
  obtain ⟨hb, v', he, ho⟩ := h
  exact ⟨v', he, owns_in ho (by decide), hb⟩
theorem nil_err (w : World) : (binOp .eql 25 .nilIface .nilIface).run Tryd.prog w = .ok (.bool true) w := by kernel_rfl
set_option maxHeartbeats 1000000 in
theorem sure_any (w : World) (hT : NibAt w) : Calls Tryd.prog 19 #[] w fun e w' => e = .returned (.bool true) ∧ Below w.heap.size w w' := by
  have HT := Lib.hid hT
  have HB1 := Lib.hid (below_alloc w (.cells #[.int .u8 97] 5 (1, 2)))
  clear hT
  have kc := fun (w : World) (C : Array Value) (n c : Nat) => Lib.run_convert_bytes_const (P := Tryd.prog) w 22 5 C n c Tryd.underlying22 Tryd.underlying5
  go_enter Tryd.func19, Tryd.ntmps19
  go_wp2_with (first
    | (go_at_call 8; (with_reducible refine (sure_frame _ _ (HT.out.below HB1.out HT.out.lt) (lit1_in w)).mono ?_); rintro e w2 ⟨v2, a2, c2, rfl, rfl, h2, hb2⟩; have H2 := Lib.hid h2; have HB2 := Lib.hid (HB1.out.trans (hb2.mono HB1.out.size)); clear h2 hb2)
    | (go_at_call 10; (with_reducible refine (sure_one _ w2 (HT.out.below HB2.out HT.out.lt) H2.out).mono ?_); rintro e w3 ⟨v3, rfl, h3, hb3⟩; have hcv : (convert 22 9 v3).run Tryd.prog w3 = .ok (.string { data := #[97] }) w3 := conv_bytes w3 v3 _ h3; have HB3 := Lib.hid (HB2.out.trans (hb3.mono HB2.out.size)); clear h3 hb3)
    | (go_at_call 17; (with_reducible refine (sumc_any _ _ _ (HT.out.below (HB3.out.trans ((below_alloc w3 _).mono HB3.out.size)) HT.out.lt) (lit9_in w3) nine_ok (by decide)).mono ?_); rintro e w4 ⟨rfl, rfl⟩))
  go_ret
  exact ⟨rfl, HB3.out.trans ((below_alloc w3 _).mono HB3.out.size)⟩
end Go.Proofs.YtfdjmfomccckaaaDoor

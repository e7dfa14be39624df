/- coin: what the law must have whatever the input is. -/
import Derived.Test.YteokgklfljhcaaaGreatDoorCnF
import Derived.Test.YteokgklfljhcaaaGreatDoorCnA
namespace Go.Proofs.YteokgklfljhcaaaGreatDoor
open Go.RowKit
set_option maxRecDepth 100000
set_option linter.unusedSimpArgs false
set_option linter.unusedVariables false
theorem sureE14 : trE [{ data := #[116, 114, 97, 110, 115, 102, 101, 114, 47, 99, 104, 97, 110, 110, 101, 108, 45, 48] }] { data := #[97, 116, 111, 109] } = none := by decide +kernel
theorem sureR14 : joinS ([{ data := #[116, 114, 97, 110, 115, 102, 101, 114, 47, 99, 104, 97, 110, 110, 101, 108, 45, 48] }] ++ [{ data := #[97, 116, 111, 109] }]) = { data := #[116, 114, 97, 110, 115, 102, 101, 114, 47, 99, 104, 97, 110, 110, 101, 108, 45, 48, 47, 97, 116, 111, 109] } := by decide +kernel
theorem csure_any (w : World) : Calls Tryz.prog 43 #[] w fun e w' => e = .returned (.bool true) ∧ Below w.heap.size w w' := by
  have HF := Lib.hid (show ∀ v w, SsIn w v [{ data := #[116, 114, 97, 110, 115, 102, 101, 114, 47, 99, 104, 97, 110, 110, 101, 108, 45, 48] }] → Calls Tryz.prog 30 #[.agg #[v, .string { data := #[97, 116, 111, 109] }]] w fun e w' => e = .returned (.tuple #[.string { data := #[116, 114, 97, 110, 115, 102, 101, 114, 47, 99, 104, 97, 110, 110, 101, 108, 45, 48, 47, 97, 116, 111, 109] }, .nilIface]) ∧ Below w.heap.size w w' from fun v w h => by
    have h1 := cfull_any [{ data := #[116, 114, 97, 110, 115, 102, 101, 114, 47, 99, 104, 97, 110, 110, 101, 108, 45, 48] }] { data := #[97, 116, 111, 109] } v w h (by decide) (fun s hs => by rw [List.mem_singleton.1 hs]; decide) (by decide) (fun _ => by rw [sureR14]; decide)
    unfold fullR at h1
    rw [if_pos sureE14, sureR14, sureE14] at h1
    exact h1)
  have HA := Lib.hid (show ∀ w, Calls Tryz.prog 93 #[.int .i64 1, .int .i64 2] w fun e w' => e = .returned (.tuple #[.int .i64 3, .nilIface]) ∧ Below w.heap.size w w' from fun w => cadd_any 1 2 w)
  have HB := Lib.hid (below_alloc w (.cells #[.string { data := #[116, 114, 97, 110, 115, 102, 101, 114, 47, 99, 104, 97, 110, 110, 101, 108, 45, 48] }] 9))
  have HI := Lib.hid (ss_one (heap_alloc_new w (.cells #[.string { data := #[116, 114, 97, 110, 115, 102, 101, 114, 47, 99, 104, 97, 110, 110, 101, 108, 45, 48] }] 9)))
  go_enter Tryz.func43, Tryz.ntmps43
  go_wp2_with (first
    | (go_at_call 30; (with_reducible refine (HF.out _ _ HI.out).mono ?_); rintro e w1 ⟨rfl, hb⟩; replace HB := Lib.hid (HB.out.trans (hb.mono HB.out.size)); clear hb)
    | (go_at_call 93; (with_reducible refine (HA.out _).mono ?_); rintro e w2 ⟨rfl, hb⟩; replace HB := Lib.hid (HB.out.trans (hb.mono HB.out.size)); clear hb))
  go_ret
  exact ⟨rfl, HB.out⟩
end Go.Proofs.YteokgklfljhcaaaGreatDoor

/- Torn at an error's number, or none. -/
import Derived.Test.YtfdjmfomccckaaaDoorIs
import Derived.Defers
import Derived.Recover
namespace Go.Proofs.YtfdjmfomccckaaaDoor
open Go.RowKit
set_option maxRecDepth 100000
theorem tornd_idle (w : World) : CallsD Tryd.prog 26 #[] .returning w fun e u' w' => e = .returned (.tuple #[]) ∧ u' = .returning ∧ w' = w := by
  refine callsD_of_wpS Tryd.func26 rfl fun c₀ cs hu => ?_
  apply wpS_region
  simp [wpOpsS, go_sem, recoverD, hu, Tryd.ntmps26, Exit.thenS]
  cases c₀
  simp_all [bodyPostS, results, Tryd.results26]
theorem torn_nil (w : World) : Calls Tryd.prog 16 #[.nilIface] w fun e w' => e = .returned (.bool false) ∧ w = w' := by
  go_enter_defers Tryd.func16, Tryd.ntmps16
  go_wp2_with (go_at_call 24; (with_reducible refine (is_nil 12 _).mono ?_); rintro e w2 ⟨rfl, rfl⟩)
  refine leaves_cons (f := 26) (args := #[]) (by simp) (by simp [go_sem]) ?_
  refine (tornd_idle _).mono ?_
  rintro e u' w'' ⟨rfl, rfl, rfl⟩
  exact ⟨_, results_tmp rfl _ _ _, rfl, rfl⟩
theorem torn_num (n : Int) (b : Bool) (hb : (n == 12) = b) (w : World) : Calls Tryd.prog 16 #[.iface 51 (.int .i64 n)] w fun e w' => e = .returned (.bool b) ∧ w = w' := by
  subst hb
  go_enter_defers Tryd.func16, Tryd.ntmps16
  go_wp2_with (go_at_call 24; (with_reducible refine (is_num n 12 _).mono ?_); rintro e w2 ⟨rfl, rfl⟩)
  refine leaves_cons (f := 26) (args := #[]) (by simp) (by simp [go_sem]) ?_
  refine (tornd_idle _).mono ?_
  rintro e u' w'' ⟨rfl, rfl, rfl⟩
  exact ⟨_, results_tmp rfl _ _ _, rfl, rfl⟩
end Go.Proofs.YtfdjmfomccckaaaDoor

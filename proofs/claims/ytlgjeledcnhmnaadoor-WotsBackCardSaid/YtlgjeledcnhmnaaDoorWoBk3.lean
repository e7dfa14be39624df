/- WotsBack: both ways. -/
import Derived.Test.YtlgjeledcnhmnaaDoorWoBk2
namespace Go.Proofs.YtlgjeledcnhmnaaDoor
open Go.RowKit
theorem back_any (F : Nat → Int) (leaf : Int) (v vo : Value) (xs ys : List Int) (w : World) (he : Env w) (hx : BytesIn w v xs) (hy : BytesIn w vo ys) (hbx : bytesOk xs) (hby : bytesOk ys) (hv : ∃ a c, v = .slice a xs.length c) (hlx : xs.length ≤ 140737488351232) (hly : ys.length ≤ 140737488351232) :
    Calls Tryd.prog 5 #[.agg (caseC F leaf v), vo] w fun e w' => e = .returned (.bool true) ∧ Below w.heap.size w w' := by
  by_cases h : 0 ≤ leaf ∧ leaf < 1024 ∧ 1 ≤ xs.length ∧ xs.length ≤ 32
  · exact back_ok F leaf v vo xs ys w he hx hy hbx hby ⟨h.1, h.2.1⟩ h.2.2 (by omega)
  · obtain ⟨a, c, rfl⟩ := hv
    exact back_no F leaf a xs.length c xs vo ys w he hx hy rfl (by omega) h
#print axioms back_any
end Go.Proofs.YtlgjeledcnhmnaaDoor

/- coin: From; the law's give and same (written by gencnq.py). -/
import Derived.Test.YteokgklfljhcaaaGreatDoorCnP
namespace Go.Proofs.YteokgklfljhcaaaGreatDoor
open Go.RowKit
set_option maxRecDepth 100000
set_option linter.unusedSimpArgs false
set_option linter.unusedVariables false
theorem sliceS14 (a : Option Addr) (n cap p : Nat) (hp : p ≤ n) (w : World) : (Instr.slice 60 (.slice a n cap) (some (.int .i64 (p : Int))) none none).run Tryz.prog w = .ok (.slice (cutA a cap p) (n - p) (cap - p)) w := by
  have he : Tryz.prog.elem 60 = 9 := by kernel_rfl
  have hs : (sizeOf 9).run Tryz.prog w = .ok 1 w := by kernel_rfl
  rw [run_slice_l w 60 a n cap (by rw [he]; exact Tryz.underlying60) .i64 (p : Int) (by omega) (by omega), he, hs]
  simp [Result.andThen_ok, sliced, cutA]
theorem SsIn.tail {w : World} {a : Option Addr} {n cap : Nat} {x : ByteArray} {t : List ByteArray} (h : SsIn w (.slice a n cap) (x :: t)) : SsIn w (.slice (cutA a cap 1) (n - 1) (cap - 1)) t := by
  obtain ⟨a', c', e, h1, h2, h3⟩ := h
  injection e with e1 e2 e3
  subst e1 e2 e3
  simp only [List.length_cons, Nat.add_sub_cancel] at *
  refine ⟨_, _, rfl, by omega, by omega, ?_⟩
  rcases h3 with h3 | ⟨ab, ao, rfl, hlt, hx⟩
  · cases h3
  · by_cases hc : cap = 1
    · left
      exact List.eq_nil_of_length_eq_zero (by omega)
    · right
      refine ⟨ab, ao + 1, by unfold cutA; rw [if_neg hc]; rfl, hlt, fun i s hi => ?_⟩
      have := hx (i + 1) s (by simpa using hi)
      rwa [show ao + 1 + i = ao + (i + 1) from by omega]
def cameB (t : List ByteArray) (p c : ByteArray) : Bool := okP p c && (match t with | [] => false | x :: _ => decide (x = portR p c))
def fromP (t : List ByteArray) (p c : ByteArray) : List ByteArray := if cameB t p c then t.tail else t
def FromP (t : List ByteArray) (b p c : ByteArray) (w : World) (e : Ending) (w' : World) : Prop := ∃ pv', e = .returned (.tuple #[.agg (trC pv' b), .bool (cameB t p c)]) ∧ SsIn w' pv' (fromP t p c) ∧ Below w.heap.size w w'
end Go.Proofs.YteokgklfljhcaaaGreatDoor

/- Part 23 of the proof. -/
import Derived.Test.YtadolfacjolbkaaDoorPe22
namespace Go.Proofs.YtadolfacjolbkaaDoor
set_option linter.unusedVariables false
set_option linter.unusedSimpArgs false
open Go.RowKit
set_option maxRecDepth 1000000
set_option linter.unusedSimpArgs false
set_option linter.unusedVariables false
/-- one proof lies here, and its steps -/
def PrL (b o : Nat) (p : PvP) (sv : Value) (w : World) : Prop := (b < w.heap.size ∧ w.rangeAt b o (prC p sv).toList) ∧ StIn w sv p.steps
theorem kept_prL (b o : Nat) (p : PvP) (sv : Value) : Kept (PrL b o p sv) := fun a c h hb => ⟨⟨Nat.lt_of_lt_of_le h.1.1 hb.size, range_below h.1.2 hb h.1.1⟩, h.2.below hb⟩
theorem PrL.key {b o : Nat} {p : PvP} {sv : Value} {w : World} (h : PrL b o p sv w) : w.cell? ⟨b, o, none⟩ = some (.string p.key) := by have := h.1.2 0 _ rfl; rwa [Nat.add_zero] at this
theorem PrL.stp {b o : Nat} {p : PvP} {sv : Value} {w : World} (h : PrL b o p sv w) : StIn w sv p.steps := h.2
theorem prs_one {w : World} {v : Value} {p : PvP} (h : PrsIn w v [p]) : ∃ b o c sa sc, v = .slice (some ⟨b, o, none⟩) 1 c ∧ PrL b o p (.slice sa p.steps.length sc) w := by
  obtain ⟨ab, ao, c, sa, sc, e, hr, hst⟩ := pr_in_range (i := 0) h rfl
  rw [Nat.zero_mul, Nat.add_zero] at hr
  refine ⟨ab, ao, c, sa, sc, e, ⟨?_, hr⟩, hst⟩
  exact World.block_lt_of_cell? _ (a := ⟨ab, ao + 0, none⟩) (hr 0 _ rfl)
theorem vn_many {R Z : Nat → Int} {key : ByteArray} {L Rt : List PvP} (h : 1 < L.length ∨ 1 < Rt.length) : verNF R Z key L Rt = some 23 := by
  unfold verNF; rw [if_pos (h.elim .inl fun h => .inr (.inl h))]
theorem vn_bet {R Z : Nat → Int} {key : ByteArray} {L Rt : List PvP} (h : betF key L Rt = false) : verNF R Z key L Rt = some 23 := by
  unfold verNF; rw [if_pos (.inr (.inr h))]
theorem vn_go {R Z : Nat → Int} {key : ByteArray} {L Rt : List PvP} : verNF R Z key L Rt = some 23 ∨ verNF R Z key L Rt = (match folAllF R L, folAllF R Rt with | some l, some r => if adjF R Z l r then none else some 23 | _, _ => some 23) := by
  unfold verNF; split
  · exact .inl rfl
  · exact .inr rfl
theorem vn_l {R Z : Nat → Int} {key : ByteArray} {p : PvP} {Rt : List PvP} (h : followF R p = none) : verNF R Z key [p] Rt = some 23 := by
  rcases vn_go (R := R) (Z := Z) (key := key) (L := [p]) (Rt := Rt) with e | e
  · exact e
  · rw [e]; simp only [folAllF, h]
theorem vn_r {R Z : Nat → Int} {key : ByteArray} {q : PvP} {L : List PvP} (h : followF R q = none) : verNF R Z key L [q] = some 23 := by
  rcases vn_go (R := R) (Z := Z) (key := key) (L := L) (Rt := [q]) with e | e
  · exact e
  · rw [e]; simp only [folAllF, h]; cases folAllF R L <;> rfl
theorem vn_adj {R Z : Nat → Int} {key : ByteArray} {L Rt : List PvP} {l r : List Pl} (h1 : ¬ (1 < L.length ∨ 1 < Rt.length)) (h2 : betF key L Rt = true) (h3 : folAllF R L = some l) (h4 : folAllF R Rt = some r) : verNF R Z key L Rt = if adjF R Z l r then none else some 23 := by
  unfold verNF
  rw [if_neg (fun h => h.elim (fun h => h1 (.inl h)) fun h => h.elim (fun h => h1 (.inr h)) fun h => by rw [h2] at h; cases h), h3, h4]
theorem vn_t {R Z : Nat → Int} {key : ByteArray} {L Rt : List PvP} {l r : List Pl} (h1 : ¬ (1 < L.length ∨ 1 < Rt.length)) (h2 : betF key L Rt = true) (h3 : folAllF R L = some l) (h4 : folAllF R Rt = some r) (h5 : adjF R Z l r = true) : verNF R Z key L Rt = none := by rw [vn_adj h1 h2 h3 h4, if_pos h5]
theorem vn_f {R Z : Nat → Int} {key : ByteArray} {L Rt : List PvP} {l r : List Pl} (h1 : ¬ (1 < L.length ∨ 1 < Rt.length)) (h2 : betF key L Rt = true) (h3 : folAllF R L = some l) (h4 : folAllF R Rt = some r) (h5 : adjF R Z l r = false) : verNF R Z key L Rt = some 23 := by rw [vn_adj h1 h2 h3 h4, if_neg (by rw [h5]; simp)]
theorem fol_one {R : Nat → Int} {p : PvP} {x : Pl} (h : followF R p = some x) : folAllF R [p] = some [x] := by simp only [folAllF, h]
end Go.Proofs.YtadolfacjolbkaaDoor

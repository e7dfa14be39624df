/- WotsSigns: what each call answers in all cases, in one word; the law's memory. -/
import Derived.Test.YtlgjeledcnhmnaaDoorWoSgD
import Derived.Test.YtlgjeledcnhmnaaDoorWoBk
import Derived.Test.YtlgjeledcnhmnaaDoorNum
namespace Go.Proofs.YtlgjeledcnhmnaaDoor
open Go.RowKit
set_option maxRecDepth 100000
def digR (text : List Int) (n : Int) : List Int × Option Nat := if 1 ≤ n ∧ n ≤ 32 then (digestF text n.toNat, none) else ([], some 1)
theorem wdigest_any (v : Value) (xs : List Int) (n : Int) (w : World) (hx : BytesIn w v xs) (he : Env w) :
    Calls Tryd.prog 8 #[v, .int .i64 n] w fun e w' => ∃ v', e = .returned (.tuple #[v', errV (digR xs n).2]) ∧ BytesIn w' v' (digR xs n).1 ∧ Below w.heap.size w w' := by
  unfold digR
  by_cases h : 1 ≤ n ∧ n ≤ 32
  · rw [if_pos h]
    obtain ⟨k, rfl⟩ : ∃ k : Nat, n = (k : Int) := ⟨n.toNat, by omega⟩
    exact wdigest_ok v xs k w hx he (by omega)
  · rw [if_neg h]
    exact (wdigest_no v n w (by omega)).mono fun _ _ ⟨h1, h2⟩ => ⟨_, h1, nil_in _, by subst h2; exact Below.refl _ _⟩
theorem rdigest_any (v : Value) (xs : List Int) (n : Int) (w : World) (hx : BytesIn w v xs) (hl : xs.length + 81 ≤ 140737488355328) :
    Calls Tryd.prog 10 #[v, .int .i64 n] w fun e w' => ∃ v', e = .returned (.tuple #[v', .int .i64 (numE (digR xs n).2)]) ∧ BytesIn w' v' (digR xs n).1 ∧ Below w.heap.size w w' := by
  unfold digR
  by_cases h : 1 ≤ n ∧ n ≤ 32
  · rw [if_pos h]
    obtain ⟨k, rfl⟩ : ∃ k : Nat, n = (k : Int) := ⟨n.toNat, by omega⟩
    exact rdigest_ok v xs k w hx hl (by omega)
  · rw [if_neg h]
    exact (rdigest_no v n w (by omega)).mono fun _ _ ⟨h1, h2⟩ => ⟨_, h1, nil_in _, by subst h2; exact Below.refl _ _⟩
def pubR (seed : Nat → Int) (leaf : Int) (n : Nat) : (Nat → Int) × Option Nat := if 0 ≤ leaf ∧ leaf < 1024 ∧ 1 ≤ n ∧ n ≤ 32 then (pubF seed leaf n, none) else (zF, some 1)
theorem wpublic_any (seed : Nat → Int) (leaf : Int) (n : Nat) (w : World) (he : Env w) :
    Calls Tryd.prog 11 #[.agg (rowOf .u8 32 seed), .int .i64 leaf, .int .i64 (n : Int)] w fun e w' => e = .returned (.tuple #[.agg (rowOf .u8 32 (pubR seed leaf n).1), errV (pubR seed leaf n).2]) ∧ Below w.heap.size w w' := by
  unfold pubR
  by_cases h : 0 ≤ leaf ∧ leaf < 1024 ∧ 1 ≤ n ∧ n ≤ 32
  · rw [if_pos h]; exact wpublic_ok seed leaf n w he ⟨h.1, h.2.1⟩ h.2.2
  · rw [if_neg h]; exact wpublic_no seed leaf n w (by omega)
theorem rpublic_any (seed : Nat → Int) (leaf : Int) (n : Nat) (w : World) :
    Calls Tryd.prog 12 #[.agg (rowOf .u8 32 seed), .int .i64 leaf, .int .i64 (n : Int)] w fun e w' => e = .returned (.tuple #[.agg (rowOf .u8 32 (pubR seed leaf n).1), .int .i64 (numE (pubR seed leaf n).2)]) ∧ Below w.heap.size w w' := by
  unfold pubR
  by_cases h : 0 ≤ leaf ∧ leaf < 1024 ∧ 1 ≤ n ∧ n ≤ 32
  · rw [if_pos h]; exact rpublic_ok seed leaf n w ⟨h.1, h.2.1⟩ h.2.2
  · rw [if_neg h]; exact rpublic_no seed leaf n w (by omega)
def signR (seed : Nat → Int) (leaf : Int) (xs : List Int) : List Int × Option Nat := if 0 ≤ leaf ∧ leaf < 1024 ∧ 1 ≤ xs.length ∧ xs.length ≤ 32 then (signF seed leaf xs, none) else ([], some 1)
theorem wsign_any (seed : Nat → Int) (leaf : Int) (v : Value) (xs : List Int) (w : World) (he : Env w) (hx : BytesIn w v xs) (hb : bytesOk xs) :
    Calls Tryd.prog 13 #[.agg (rowOf .u8 32 seed), .int .i64 leaf, v] w fun e w' => ∃ v', e = .returned (.tuple #[v', errV (signR seed leaf xs).2]) ∧ BytesIn w' v' (signR seed leaf xs).1 ∧ Below w.heap.size w w' := by
  unfold signR
  by_cases h : 0 ≤ leaf ∧ leaf < 1024 ∧ 1 ≤ xs.length ∧ xs.length ≤ 32
  · rw [if_pos h]
    exact (wsign_ok seed leaf v xs w he ⟨h.1, h.2.1⟩ hx hb h.2.2).mono fun _ _ ⟨v', h1, h2, h3⟩ => ⟨v', h1, owns_in h2 (by rw [signF, chainsF_length, digF_length]; unfold maxLen; omega), h3⟩
  · rw [if_neg h]
    obtain ⟨a, c, rfl, -⟩ := hx
    exact (wsign_no seed leaf a xs.length c w h).mono fun _ _ ⟨h1, h2⟩ => ⟨_, h1, nil_in _, h2⟩
theorem rsign_any (seed : Nat → Int) (leaf : Int) (v : Value) (xs : List Int) (w : World) (hx : BytesIn w v xs) (hb : bytesOk xs) :
    Calls Tryd.prog 14 #[.agg (rowOf .u8 32 seed), .int .i64 leaf, v] w fun e w' => ∃ v', e = .returned (.tuple #[v', .int .i64 (numE (signR seed leaf xs).2)]) ∧ BytesIn w' v' (signR seed leaf xs).1 ∧ Below w.heap.size w w' := by
  unfold signR
  by_cases h : 0 ≤ leaf ∧ leaf < 1024 ∧ 1 ≤ xs.length ∧ xs.length ≤ 32
  · rw [if_pos h]; exact rsign_ok seed leaf v xs w ⟨h.1, h.2.1⟩ hx hb h.2.2
  · rw [if_neg h]
    obtain ⟨a, c, rfl, -⟩ := hx
    exact (rsign_no seed leaf a xs.length c w h).mono fun _ _ ⟨h1, h2⟩ => ⟨_, h1, nil_in _, h2⟩
def dR (xs : List Int) : List Nat := if 1 ≤ xs.length ∧ xs.length ≤ 32 then digF xs else []
theorem dR_length (xs : List Int) : (dR xs).length ≤ 67 := by
  unfold dR
  split
  · rw [digF_length]; omega
  · simp
theorem wdigits_any (v : Value) (xs : List Int) (w : World) (hx : BytesIn w v xs) (hb : bytesOk xs) :
    Calls Tryd.prog 17 #[v] w fun e w' => ∃ v', e = .returned v' ∧ IntsIn w' v' (natInts (dR xs)) ∧ Below w.heap.size w w' := by
  unfold dR
  by_cases h : 1 ≤ xs.length ∧ xs.length ≤ 32
  · rw [if_pos h]
    exact (wdigits_ok v xs w hx hb h.1 h.2).mono fun _ _ ⟨v', h1, h2, h3⟩ => ⟨v', h1, owns_ints h2 (by rw [natInts_length, digF_length]; unfold maxLen; omega), h3⟩
  · rw [if_neg h]
    obtain ⟨a, c, rfl, -⟩ := hx
    exact (wdigits_no a xs.length c w (by omega)).mono fun _ _ ⟨h1, h2⟩ => ⟨_, h1, ints_nil _, by subst h2; exact Below.refl _ _⟩
theorem rdigits_any (v : Value) (xs : List Int) (w : World) (hx : BytesIn w v xs) (hb : bytesOk xs) :
    Calls Tryd.prog 18 #[v] w fun e w' => ∃ v', e = .returned v' ∧ IntsIn w' v' (natInts (dR xs)) ∧ Below w.heap.size w w' := by
  unfold dR
  by_cases h : 1 ≤ xs.length ∧ xs.length ≤ 32
  · rw [if_pos h]
    exact (rdigits_ok v xs w hx hb h.1 h.2).mono fun _ _ ⟨v', h1, h2, h3⟩ => ⟨v', h1, owns_ints h2 (by rw [natInts_length, digF_length]; unfold maxLen; omega), h3⟩
  · rw [if_neg h]
    obtain ⟨a, c, rfl, -⟩ := hx
    exact (rdigits_no a xs.length c w (by omega)).mono fun _ _ ⟨h1, h2⟩ => ⟨_, h1, ints_nil _, by subst h2; exact Below.refl _ _⟩
theorem wlen_any (xs : List Int) (n : Nat) (hn : n = xs.length) (w : World) : Calls Tryd.prog 19 #[.int .i64 (n : Int)] w fun e w' => e = .returned (.int .i64 (((dR xs).length : Nat) : Int)) ∧ w = w' := by
  subst hn
  unfold dR
  by_cases h : 1 ≤ xs.length ∧ xs.length ≤ 32
  · rw [if_pos h]
    refine (wlen_ok xs.length w h.1 h.2).mono fun _ _ ⟨h1, h2⟩ => ⟨?_, h2⟩
    rw [h1, digF_length, show ((2 * xs.length + 3 : Nat) : Int) = 2 * (xs.length : Int) + 3 by omega]
  · rw [if_neg h]
    exact (wlen_no (xs.length : Int) w (by omega)).mono fun _ _ ⟨h1, h2⟩ => ⟨h1, h2⟩
structure SgL (w w' : World) (F : Nat → Int) (leaf : Int) (v : Value) (xs : List Int) (vo : Value) (ys : List Int) (bs : List (Value × List Int)) (rs : List (Nat × (Nat → Int))) : Prop where
  m : BackM w w' F leaf v xs vo ys
  et : ErrType w'
  bs : ∀ p ∈ bs, BytesIn w' p.1 p.2
  rs : ∀ p ∈ rs, RowAt w' p.1 .u8 32 23 p.2
variable {w w' : World} {F : Nat → Int} {leaf : Int} {v vo : Value} {xs ys : List Int} {bs : List (Value × List Int)} {rs : List (Nat × (Nat → Int))}
theorem SgL.call {w2 : World} (m : SgL w w' F leaf v xs vo ys bs rs) (h : Below w'.heap.size w' w2) : SgL w w2 F leaf v xs vo ys bs rs :=
  ⟨m.m.call h, m.et.below h, fun p hp => (m.bs p hp).below h, fun p hp => (m.rs p hp).below h (m.rs p hp).lt⟩
theorem SgL.addB {u : Value} {l : List Int} (m : SgL w w' F leaf v xs vo ys bs rs) (h : BytesIn w' u l) : SgL w w' F leaf v xs vo ys (bs ++ [(u, l)]) rs :=
  ⟨m.m, m.et, fun p hp => by rcases List.mem_append.1 hp with hp | hp; exact m.bs p hp; simp at hp; subst hp; exact h, m.rs⟩
theorem SgL.addR {g : Nat} {f : Nat → Int} (m : SgL w w' F leaf v xs vo ys bs rs) (h : RowAt w' g .u8 32 23 f) : SgL w w' F leaf v xs vo ys bs (rs ++ [(g, f)]) :=
  ⟨m.m, m.et, m.bs, fun p hp => by rcases List.mem_append.1 hp with hp | hp; exact m.rs p hp; simp at hp; subst hp; exact h⟩
theorem sgl_start (he : Env w) (het : ErrType w) (hx : BytesIn w v xs) (hy : BytesIn w vo ys) : SgL w (w.alloc (.cells (caseC F leaf v) 26)) F leaf v xs vo ys [] [] :=
  ⟨back_start he hx hy, het.below (below_alloc w _), fun _ h => absurd h (by simp), fun _ h => absurd h (by simp)⟩
end Go.Proofs.YtlgjeledcnhmnaaDoor

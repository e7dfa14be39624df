/- Part 14 of the proof. -/
import Derived.Test.YtggcodobkmhkgaaDoorFc13
namespace Go.Proofs.YtggcodobkmhkgaaDoor
set_option linter.unusedVariables false
set_option linter.unusedSimpArgs false
open Go.RowKit Go.Maps Go.Proofs
set_option maxRecDepth 100000
/-- a file of which the first n bytes are left, all of them safe -/
def cutEnt (e : Ent) (n : Nat) : Ent := ⟨e.nm, firstV e.v n, e.xs.take n, n⟩
/-- how many bytes are left where the next number is k -/
def keptN (e : Ent) (k : Int) : Nat := e.safe + (min (max k 0) ((e.xs.length : Int) - e.safe)).toNat
def startEs : List Ent → List Int → List Ent
  | [], _ => []
  | e :: r, ks => if e.xs.length = e.safe then e :: startEs r ks else match ks with
    | [] => cutEnt e e.safe :: startEs r []
    | k :: t => cutEnt e (keptN e k) :: startEs r t
theorem insE_mid {e' : Ent} : ∀ (done rest : List Ent), (∀ x ∈ done, bytesBefore x.nm e'.nm = true) → (∀ x ∈ rest, bytesBefore e'.nm x.nm = true) → insE e' (done ++ rest) = done ++ e' :: rest
  | [], [], _, _ => rfl
  | [], y :: r, _, h => by
    show insE e' (y :: r) = _
    unfold insE
    rw [if_pos (h y (by simp))]; rfl
  | x :: d, rest, h1, h2 => by
    show insE e' (x :: (d ++ rest)) = _
    unfold insE
    have hb := h1 x (by simp)
    have hn : ¬ bytesBefore e'.nm x.nm = true := fun h => by
      have := WideShapes.bytes_trans _ _ _ h hb
      rw [WideAt.bytes_irrefl] at this; cases this
    rw [if_neg hn, insE_mid d rest (fun y hy => h1 y (List.mem_cons_of_mem _ hy)) h2]
    rfl
theorem putE_mid {e e' : Ent} {done rest : List Ent} (hs : SortedE (done ++ e :: rest)) (hn : e'.nm = e.nm) : putE e' (done ++ e :: rest) = done ++ e' :: rest := by
  have h1 := List.pairwise_append.1 hs
  obtain ⟨h2, h3, h4⟩ := h1
  obtain ⟨h5, h6⟩ := List.pairwise_cons.1 h3
  have hne : ∀ {x : Ent}, bytesBefore x.nm e.nm = true ∨ bytesBefore e.nm x.nm = true → (!(x.nm == e'.nm)) = true := fun {x} h => by
    have : x.nm ≠ e'.nm := fun he => by
      rw [he, hn, WideAt.bytes_irrefl] at h
      rcases h with h | h <;> cases h
    simpa using this
  have hd : delE e'.nm (done ++ e :: rest) = done ++ rest := by
    unfold delE
    rw [List.filter_append, List.filter_cons_of_neg (by simp [hn]), List.filter_eq_self.2 fun x hx => hne (.inl (h4 x hx e (by simp))), List.filter_eq_self.2 fun x hx => hne (.inr (h5 x hx))]
  unfold putE
  rw [hd]
  exact insE_mid done rest (fun x hx => by rw [hn]; exact h4 x hx e (by simp)) (fun x hx => by rw [hn]; exact h5 x hx)
theorem getE_mid {e : Ent} {done rest : List Ent} (hs : SortedE (done ++ e :: rest)) : getE e.nm (done ++ e :: rest) = some e := by
  cases h : getE e.nm (done ++ e :: rest) with
  | none => exact absurd rfl (getE_none h e (by simp))
  | some x =>
    obtain ⟨h1, h2⟩ := getE_some h
    rw [ent_eq hs h1 (by simp) h2]
/-- v is a slice of the numbers ks, its array apart from the file system -/
def KeepIn (R : FsR) (w : World) (v : Value) (ks : List Int) : Prop :=
  ∃ a cap, v = .slice a ks.length cap ∧ ks.length ≤ cap ∧ cap ≤ maxLen ∧ (ks = [] ∨ ∃ ab ao, a = some ⟨ab, ao, none⟩ ∧ (∀ o, ¬ Reads R ab o) ∧ ab < w.heap.size ∧ ∀ i k, ks[i]? = some k → w.cell? ⟨ab, ao + i, none⟩ = some (.int .i64 k))
theorem KeepIn.step {R R' : FsR} {w w' : World} {v : Value} {ks : List Int} (h : KeepIn R w v ks) (hs : StepTo R R' w w') : KeepIn R w' v ks := by
  obtain ⟨a, cap, rfl, h1, h2, h3⟩ := h
  refine ⟨a, cap, rfl, h1, h2, h3.imp id ?_⟩
  rintro ⟨ab, ao, rfl, hr, hlt, hc⟩
  have hb := hs.keep.block ab hlt fun o hf => hr o hf.reads
  exact ⟨ab, ao, rfl, hr, Nat.lt_of_lt_of_le hlt hs.keep.size, fun i k hi => (World.cell?_of_block (w := w) hb).trans (hc i k hi)⟩
theorem KeepIn.turn {R : FsR} {w w' : World} {v : Value} {ks : List Int} (h : KeepIn R w v ks) (hw : ∀ k, k < w.heap.size → (∀ o, ¬ Reads R k o) → w'.heap[k]? = w.heap[k]?) (hsz : w.heap.size ≤ w'.heap.size) : KeepIn R w' v ks := by
  obtain ⟨a, cap, rfl, h1, h2, h3⟩ := h
  refine ⟨a, cap, rfl, h1, h2, h3.imp id ?_⟩
  rintro ⟨ab, ao, rfl, hr, hlt, hc⟩
  exact ⟨ab, ao, rfl, hr, Nat.lt_of_lt_of_le hlt hsz, fun i k hi => (World.cell?_of_block (w := w) (hw ab hlt hr)).trans (hc i k hi)⟩
theorem sliceKlo (a : Option Addr) (n cap p : Nat) (hp : p ≤ n) (w : World) : (Instr.slice 31 (.slice a n cap) (some (.int .i64 (p : Int))) none none).run Tryd.prog w = .ok (.slice (cutA a cap p) (n - p) (cap - p)) w := by
  have he : Tryd.prog.elem 31 = 3 := by kernel_rfl
  have hs : (sizeOf 3).run Tryd.prog w = .ok 1 w := by kernel_rfl
  rw [run_slice_l w 31 a n cap (by rw [he]; exact Tryd.underlying31) .i64 (p : Int) (by omega) (by omega), he, hs]
  simp [Result.andThen_ok, sliced, cutA]
theorem KeepIn.tail {R : FsR} {w : World} {a : Option Addr} {n cap : Nat} {k : Int} {ks : List Int} (h : KeepIn R w (.slice a n cap) (k :: ks)) : KeepIn R w (.slice (cutA a cap 1) (n - 1) (cap - 1)) ks := by
  obtain ⟨a', cap', e, hc, hm, hx⟩ := h
  injection e with e1 e2 e3
  subst e1 e2 e3
  refine ⟨cutA a cap 1, cap - 1, by simp, by simp only [List.length_cons] at hc; omega, by omega, ?_⟩
  by_cases he : ks = []
  · exact .inl he
  · right
    rcases hx with hx | ⟨ab, ao, rfl, hr, hlt, hx⟩
    · cases hx
    · have : 0 < ks.length := List.length_pos_iff.2 he
      refine ⟨ab, ao + 1, ?_, hr, hlt, fun i x hi => ?_⟩
      · unfold cutA
        rw [if_neg (by simp at hc; omega)]
        show some (Addr.add ⟨ab, ao, none⟩ 1) = _
        rw [Addr.add_mid]
      · have := hx (i + 1) x (by simpa using hi)
        rwa [show ao + 1 + i = ao + (i + 1) by omega]
end Go.Proofs.YtggcodobkmhkgaaDoor

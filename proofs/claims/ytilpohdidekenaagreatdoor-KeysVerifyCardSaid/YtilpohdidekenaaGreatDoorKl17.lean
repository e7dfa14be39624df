/- Part 17 of the proof. -/
import Derived.LaidEql
import Derived.Stop.Asserts
import Derived.RowKitTokens
import Derived.Test.YtilpohdidekenaaGreatDoorKl1
import Derived.Test.YtilpohdidekenaaGreatDoorKl8
import Derived.Test.YtilpohdidekenaaGreatDoorKl13
import Derived.Test.YtilpohdidekenaaGreatDoorKl14
import Derived.Test.YtilpohdidekenaaGreatDoorKl15
import Derived.Test.YtilpohdidekenaaGreatDoorKl16
namespace Go.Proofs.YtilpohdidekenaaGreatDoor
set_option linter.unusedVariables false
set_option linter.unusedSimpArgs false
/-- what can be framed -/
def okP (p : List Int) : Bool := decide (p.length ≠ 0) && decide (p.length ≤ 1048576)
theorem okP_iff (p : List Int) : okP p = true ↔ p.length ≠ 0 ∧ p.length ≤ 1048576 := by simp [okP]
def good (l : List (List Int)) : List (List Int) := l.filter okP
def catR : List (List Int) → List Int
  | [] => []
  | p :: G => recF p ++ catR G
theorem catR_append : ∀ G H : List (List Int), catR (G ++ H) = catR G ++ catR H
  | [], _ => rfl
  | p :: G, H => by simp [catR, catR_append G H]
theorem catR_ok : ∀ G : List (List Int), (∀ p ∈ G, bytesOk p) → bytesOk (catR G)
  | [], _ => bytesOk_nil
  | p :: G, h => (recF_ok (h p (by simp))).append (catR_ok G fun q hq => h q (by simp [hq]))
theorem catR_le : ∀ (G : List (List Int)), (∀ p ∈ G, p.length ≤ 1048576) → (catR G).length ≤ G.length * 1048588
  | [], _ => by simp [catR]
  | p :: G, h => by
    have := catR_le G fun q hq => h q (by simp [hq])
    have h1 := h p (by simp)
    simp only [catR, List.length_append, recF_length, List.length_cons]
    omega
/-- where the records end -/
def endR (G : List (List Int)) : List Int := (List.range G.length).map fun i => (((catR (G.take (i + 1))).length : Nat) : Int)
theorem endR_length (G : List (List Int)) : (endR G).length = G.length := by simp [endR]
theorem endR_get (G : List (List Int)) (i : Nat) (h : i < G.length) : (endR G)[i]? = some (((catR (G.take (i + 1))).length : Nat) : Int) := by simp [endR, h]
theorem endR_snoc (G : List (List Int)) (p : List Int) : endR (G ++ [p]) = endR G ++ [(((catR (G ++ [p])).length : Nat) : Int)] := by
  unfold endR
  rw [List.length_append, List.length_singleton, List.range_succ, List.map_append, List.map_singleton]
  congr 1
  · apply List.map_congr_left
    intro i hi
    have hi' : i < G.length := by simpa using hi
    rw [List.take_append_of_le_length (by omega)]
  · rw [List.take_of_length_le (by simp)]
/-- how many records end at or ahead of the cut -/
def cutJ : List (List Int) → Nat → Nat
  | [], _ => 0
  | p :: G, k => if p.length + 12 ≤ k then cutJ G (k - (p.length + 12)) + 1 else 0
theorem cutJ_le : ∀ (G : List (List Int)) (k : Nat), cutJ G k ≤ G.length
  | [], _ => Nat.le_refl _
  | p :: G, k => by
    unfold cutJ
    split
    · have := cutJ_le G (k - (p.length + 12)); simp; omega
    · omega
theorem cutJ_iff : ∀ (G : List (List Int)) (k i : Nat), i < G.length → ((catR (G.take (i + 1))).length ≤ k ↔ i < cutJ G k)
  | [], _, _, h => by simp at h
  | p :: G, k, i, h => by
    simp only [List.take_succ_cons, catR, List.length_append, recF_length]
    unfold cutJ
    cases i with
    | zero =>
      simp only [List.take_zero, catR, List.length_nil, Nat.add_zero]
      split
      · simp; omega
      · simp; omega
    | succ i =>
      have ih := cutJ_iff G (k - (p.length + 12)) i (by simpa using h)
      split
      · constructor
        · intro h1; have := ih.1 (by omega); omega
        · intro h1; have := ih.2 (by omega); omega
      · constructor
        · intro h1; omega
        · intro h1; omega
theorem oneF_cut (p r : List Int) (m : Nat) (h1 : p.length ≠ 0) (h2 : p.length ≤ 1048576) (h0 : m ≠ 0) (hm : m < p.length + 12) : oneF ((recF p ++ r).take m) = (some 12, []) := by
  have hl : ((recF p ++ r).take m).length = m := by rw [List.length_take, List.length_append, recF_length]; omega
  have hc1 := crcF_lt (wordL_ok p.length)
  have e0 : recF p ++ r = wordL p.length ++ (wordL (crcF (wordL p.length)) ++ (p ++ (wordL (crcF p) ++ r))) := by simp [recF]
  unfold oneF
  rw [if_neg (by omega), hl]
  split
  · rfl
  · next h8 =>
    have t4 : ((recF p ++ r).take m).take 4 = wordL p.length := by rw [List.take_take, Nat.min_eq_left (by omega), e0, take_len _ _ 4 rfl]
    have d4 : rdW (((recF p ++ r).take m).drop 4) = crcF (wordL p.length) := by
      rw [List.drop_take, e0, drop_len _ _ 4 rfl, List.take_append, rdW_app _ _ (by rw [List.length_take, wordL_length]; omega), List.take_of_length_le (by rw [wordL_length]; omega), rdW_word _ hc1]
    have d0 : rdW ((recF p ++ r).take m) = p.length := by
      rw [e0, List.take_append, rdW_app _ _ (by rw [List.length_take, wordL_length]; omega), List.take_of_length_le (by rw [wordL_length]; omega), rdW_word _ (by omega)]
    rw [t4, d4, d0, if_neg (by omega), if_pos hm]
theorem take_app_ge {α : Type} (A r : List α) (m : Nat) (h : A.length ≤ m) : (A ++ r).take m = A ++ r.take (m - A.length) := by rw [List.take_append, List.take_of_length_le h]
theorem oneF_nil : oneF [] = (some 8, []) := rfl
theorem scanG_nil (f : Nat) : scanG f [] = ([], 0, none) := by
  cases f with
  | zero => rfl
  | succ f => simp only [scanG, oneF_nil]; rfl
theorem scanG_bad (f : Nat) (b : List Int) (k : Nat) (h : oneF b = (some k, [])) (h8 : k ≠ 8) : scanG (f + 1) b = ([], 0, some k) := by
  simp only [scanG, h]; rw [if_neg h8]
theorem scanG_ok (f : Nat) (b p : List Int) (h : oneF b = (none, p)) : scanG (f + 1) b = (p :: (scanG f (b.drop (p.length + 12))).1, p.length + 12 + (scanG f (b.drop (p.length + 12))).2.1, (scanG f (b.drop (p.length + 12))).2.2) := by
  simp only [scanG, h]
/-- records that are cut somewhere -/
theorem scan_cut (G : List (List Int)) : ∀ (k f : Nat), (∀ p ∈ G, bytesOk p ∧ p.length ≠ 0 ∧ p.length ≤ 1048576) → k ≤ (catR G).length → k ≤ f →
    scanG f ((catR G).take k) = (G.take (cutJ G k), (catR (G.take (cutJ G k))).length, if (catR (G.take (cutJ G k))).length = k then none else some 12) := by
  induction G with
  | nil =>
    intro k f _ hk _
    have hk0 : k = 0 := by simpa [catR] using hk
    subst hk0
    rw [show (catR []).take 0 = [] from rfl, scanG_nil]; rfl
  | cons p G ih =>
    intro k f hG hk hf
    obtain ⟨ho, h1, h2⟩ := hG p (by simp)
    rcases Nat.eq_zero_or_pos k with h0 | h0
    · subst h0
      have hj : cutJ (p :: G) 0 = 0 := by simp only [cutJ]; rw [if_neg (by omega)]
      rw [List.take_zero, scanG_nil, hj]; rfl
    · obtain ⟨f, rfl⟩ : ∃ g, f = g + 1 := ⟨f - 1, by omega⟩
      have hcat : catR (p :: G) = recF p ++ catR G := rfl
      rw [hcat]
      by_cases hc : p.length + 12 ≤ k
      · have ht : (recF p ++ catR G).take k = recF p ++ (catR G).take (k - (p.length + 12)) := by rw [take_app_ge _ _ _ (by rw [recF_length]; exact hc), recF_length]
        have hone := oneF_rec p ((catR G).take (k - (p.length + 12))) ho h1 h2
        have ih' := ih (k - (p.length + 12)) f (fun q hq => hG q (by simp [hq])) (by rw [hcat, List.length_append, recF_length] at hk; omega) (by omega)
        have hj : cutJ (p :: G) k = cutJ G (k - (p.length + 12)) + 1 := by simp only [cutJ]; rw [if_pos hc]
        rw [ht, hj, scanG_ok f _ p hone, drop_len _ _ _ (recF_length p), ih', List.take_succ_cons, show catR (p :: G.take (cutJ G (k - (p.length + 12)))) = recF p ++ catR (G.take (cutJ G (k - (p.length + 12)))) from rfl, List.length_append, recF_length]
        refine Prod.ext rfl (Prod.ext rfl ?_)
        show (if _ then none else some 12) = (if _ then none else some 12)
        by_cases he : (catR (G.take (cutJ G (k - (p.length + 12))))).length = k - (p.length + 12)
        · rw [if_pos he, if_pos (by omega)]
        · rw [if_neg he, if_neg (by omega)]
      · have hone := oneF_cut p (catR G) k h1 h2 (by omega) (by omega)
        have hj : cutJ (p :: G) k = 0 := by simp only [cutJ]; rw [if_neg hc]
        rw [hj, scanG_bad f _ 12 hone (by decide), List.take_zero, show (catR []).length = 0 from rfl, if_neg (show ¬ 0 = k by omega)]
theorem cutJ_all : ∀ G : List (List Int), cutJ G (catR G).length = G.length
  | [] => rfl
  | p :: G => by
    simp only [cutJ, catR, List.length_append, recF_length]
    rw [if_pos (by omega), show p.length + 12 + (catR G).length - (p.length + 12) = (catR G).length by omega, cutJ_all G]
    rfl
theorem scanF_cut (G : List (List Int)) (k : Nat) (hG : ∀ p ∈ G, bytesOk p ∧ p.length ≠ 0 ∧ p.length ≤ 1048576) (hk : k ≤ (catR G).length) :
    scanF ((catR G).take k) = (G.take (cutJ G k), (catR (G.take (cutJ G k))).length, if (catR (G.take (cutJ G k))).length = k then none else some 12) :=
  scan_cut G k _ hG hk (by rw [List.length_take]; omega)
theorem scanF_all (G : List (List Int)) (hG : ∀ p ∈ G, bytesOk p ∧ p.length ≠ 0 ∧ p.length ≤ 1048576) : scanF (catR G) = (G, (catR G).length, none) := by
  have h := scanF_cut G (catR G).length hG (Nat.le_refl _)
  rw [List.take_length, cutJ_all, List.take_length, if_pos rfl] at h
  exact h
end Go.Proofs.YtilpohdidekenaaGreatDoor
namespace Go.Proofs.YtilpohdidekenaaGreatDoor
set_option linter.unusedVariables false
set_option linter.unusedSimpArgs false
open Go.RowKit
set_option maxRecDepth 100000
/-- the last of a counter's numbers -/
def lastG (k : Nat) : Nat → List (List Int) → Nat × Option Nat
  | u, [] => (u, none)
  | u, p :: r => if doneE (uintS (p, none) k).2 = none ∧ u < (uintS (p, none) k).1 then lastG k (uintS (p, none) k).1 r else (0, some 14)
def lastS (k : Nat) (ps : List (List Int)) : Nat × Option Nat := lastG k 0 ps
/-- what the counter tells -/
def countedS (st : St) (nm : ByteArray) (k : Nat) : (Nat × Option Nat) × St :=
  match aFind st nm with
  | (some x, _) => if x = 8 then ((0, none), st) else ((0, some x), st)
  | (none, f) =>
    match (scanF (afXs f)).2.2 with
    | none => (lastS k (scanF (afXs f)).1, st)
    | some x => if x = 12 then (match (lastS k (scanF (afXs f)).1).2 with
        | none => (((lastS k (scanF (afXs f)).1).1, (aCut st nm ((scanF (afXs f)).2.1 : Int)).1), (aCut st nm ((scanF (afXs f)).2.1 : Int)).2)
        | some y => (((lastS k (scanF (afXs f)).1).1, some y), st)) else ((0, some 14), st)
/-- one more leaf is counted -/
def countS (st : St) (nm : ByteArray) (n : Nat) : Option Nat × St :=
  match aAppend st nm (recF (varint n)) with
  | (some x, s1) => (some x, s1)
  | (none, s1) => aSync s1 nm
/-- the payloads of 1 to u -/
def cntL (u : Nat) : List (List Int) := (List.range u).map fun i => varint (i + 1)
def cntX (u : Nat) : List Int := catR (cntL u)
theorem cntL_length (u : Nat) : (cntL u).length = u := by simp [cntL]
theorem cntL_succ (u : Nat) : cntL (u + 1) = cntL u ++ [varint (u + 1)] := by simp [cntL, List.range_succ]
theorem cntX_succ (u : Nat) : cntX (u + 1) = cntX u ++ recF (varint (u + 1)) := by unfold cntX; rw [cntL_succ, catR_append]; simp [catR]
theorem cntL_take (u j : Nat) (h : j ≤ u) : (cntL u).take j = cntL j := by
  unfold cntL
  rw [← List.map_take, List.take_range, Nat.min_eq_left h]
theorem varint_ok (n : Nat) : bytesOk (varint n) := by
  intro x hx
  obtain ⟨i, hi, rfl⟩ := List.mem_iff_getElem.1 hx
  have hg : i < glen n := by rw [← varint_length n]; exact hi
  have h := varint_get hg
  rw [List.getElem?_eq_getElem hi] at h
  injection h with h
  rw [h]
  have := gby_lt hg
  omega
theorem cntL_ok (u : Nat) (hu : u < 18446744073709551616) : ∀ p ∈ cntL u, bytesOk p ∧ p.length ≠ 0 ∧ p.length ≤ 1048576 := by
  intro p hp
  simp only [cntL, List.mem_map, List.mem_range] at hp
  obtain ⟨i, hi, rfl⟩ := hp
  have h1 := glen_pos (i + 1)
  have h2 := glen_le (n := i + 1) (by omega)
  refine ⟨varint_ok _, ?_, ?_⟩ <;> rw [varint_length] <;> omega
theorem cntX_length (u : Nat) (hu : u < 18446744073709551616) : (cntX u).length ≤ 22 * u := by
  induction u with
  | zero => simp [cntX, cntL, catR]
  | succ u ih =>
    have h2 := glen_le (n := u + 1) hu
    have := ih (by omega)
    rw [cntX_succ, List.length_append, recF_length, varint_length]; omega
theorem cntX_ok (u : Nat) (hu : u < 18446744073709551616) : bytesOk (cntX u) := catR_ok _ fun p hp => (cntL_ok u hu p hp).1
theorem lastG_snoc (k : Nat) (p : List Int) : ∀ (l : List (List Int)) (u v : Nat), lastG k u l = (v, none) → lastG k u (l ++ [p]) = if doneE (uintS (p, none) k).2 = none ∧ v < (uintS (p, none) k).1 then ((uintS (p, none) k).1, none) else (0, some 14)
  | [], u, v, h => by
    simp only [lastG] at h
    injection h with h _
    subst h
    rfl
  | q :: l, u, v, h => by
    simp only [lastG, List.cons_append] at h ⊢
    split at h
    · rename_i hc
      rw [if_pos hc]
      exact lastG_snoc k p l _ v h
    · cases h
theorem lastS_cnt (k : Nat) (hk : k < 18446744073709551616) : ∀ u, u ≤ k → lastS k (cntL u) = (u, none)
  | 0, _ => rfl
  | u + 1, h => by
    have h1 := lastS_cnt k hk u (by omega)
    unfold lastS at h1 ⊢
    rw [cntL_succ, lastG_snoc k _ _ _ _ h1]
    have h2 := uintS_varint (u + 1) k [] (by omega) h
    rw [List.append_nil] at h2
    rw [h2, if_pos ⟨rfl, by show u < u + 1; omega⟩]
end Go.Proofs.YtilpohdidekenaaGreatDoor
namespace Go.Proofs.YtilpohdidekenaaGreatDoor
set_option linter.unusedVariables false
set_option linter.unusedSimpArgs false
open Go.RowKit Go.Extern.Stop Go.Stop Go.Extern
set_option maxRecDepth 100000
/-- the package-level variable errors.errorType, as it is laid -/
def ErrType (w : World) : Prop := w.cell? ⟨0, 0, none⟩ = some (.iface 180 (.agg #[.pointer (some ⟨4, 30, none⟩)]))
theorem ErrType.below {w w' : World} (h : ErrType w) (hb : Below w.heap.size w w') : ErrType w' := (hb.cell (World.block_lt_of_cell? w _ h)).trans h
theorem ErrType.only {p : Nat} {w w' : World} (h : ErrType w) (ho : Only p w w') (hp : 0 < p) : ErrType w' := ho.cell h (show 0 ≠ p by omega)
theorem nPtrOf (t : Addr) (w : World) : (ReflectliteValue.unpack (.iface 89 (.pointer (some t)))).run Tryz.prog w
    = .ok (.agg #[.pointer (some ⟨4, 89, none⟩), .pointer (some ⟨w.heap.size, 0, none⟩), .int .u64 150]) (w.alloc (.cells #[.pointer (some t)] 89)) := by kernel_rfl
theorem nNumOf (n : Int) (w : World) : (ReflectliteValue.unpack (.iface 87 (.int .i64 n))).run Tryz.prog w
    = .ok (.agg #[.pointer (some ⟨4, 87, none⟩), .pointer (some ⟨w.heap.size, 0, none⟩), .int .u64 130]) (w.alloc (.cells #[.int .i64 n] 87)) := by kernel_rfl
theorem nType (a : Addr) (w : World) : (ReflectliteValue.methodAny (ReflectliteValue.valueError "reflectlite.Value.Type" 0) (fun t _ _ _ => ReflectliteType.toType t) #[.agg #[.pointer (some ⟨4, 89, none⟩), .pointer (some a), .int .u64 150]]).run Tryz.prog w
    = .ok (.iface 180 (.agg #[.pointer (some ⟨4, 89, none⟩)])) w := by kernel_rfl
theorem nKindP (w : World) : ((ReflectliteType.abiMethod fun t => (fun a : Nat => Value.int IntKind.u8 (a : Int)) <$> Rtype.kind t) #[.pointer (some ⟨4, 89, none⟩)]).run Tryz.prog w = .ok (.int .u8 22) w := by kernel_rfl
theorem nKindE (w : World) : ((ReflectliteType.abiMethod fun t => (fun a : Nat => Value.int IntKind.u8 (a : Int)) <$> Rtype.kind t) #[.pointer (some ⟨4, 87, none⟩)]).run Tryz.prog w = .ok (.int .u8 2) w := by kernel_rfl
theorem nMethod (z : Sem Value) (f : TypeId → Addr → Nat → Nat → Sem Value) (v : Value) :
    ReflectliteValue.method z f #[v] = (do match ← ReflectliteValue.parts v with | none => z | some (t, a, fl) => f t a fl (fl % 32)) := rfl
theorem nPartsP (a : Addr) (w : World) : (ReflectliteValue.parts (.agg #[.pointer (some ⟨4, 89, none⟩), .pointer (some a), .int .u64 150])).run Tryz.prog w = .ok (some (89, a, 150)) w := by kernel_rfl
theorem nIsNil (a p : Addr) (W : World) (ha : W.cell? a = some (.pointer (some p))) :
    (ReflectliteValue.method (ReflectliteValue.valueError "reflectlite.Value.IsNil" 0) ReflectliteValue.isNil #[.agg #[.pointer (some ⟨4, 89, none⟩), .pointer (some a), .int .u64 150]]).run Tryz.prog W = .ok (.bool false) W := by
  rw [nMethod]
  simp only [Sem.run_bind, nPartsP, Result.andThen]
  simp [ReflectliteValue.isNil, loadVar, isAgg, underlying, Tryz.underlying89, ha, Result.andThen]
theorem nMKind (m : Nat) (h : Value) (w : World) : (Go.method (m + 1) 180 (.agg #[h]) "Kind").run Tryz.prog w = .ok (177, h) w := by kernel_rfl
theorem nMElem (m : Nat) (h : Value) (w : World) : (Go.method (m + 1) 180 (.agg #[h]) "Elem").run Tryz.prog w = .ok (189, .agg #[h]) w := by kernel_rfl
theorem nMImpl (m : Nat) (h : Value) (w : World) : (Go.method (m + 1) 180 (.agg #[h]) "Implements").run Tryz.prog w = .ok (190, .agg #[h]) w := by kernel_rfl
theorem nMAssign (m : Nat) (h : Value) (w : World) : (Go.method (m + 1) 180 (.agg #[h]) "AssignableTo").run Tryz.prog w = .ok (187, .agg #[h]) w := by kernel_rfl
theorem nElem (w : World) : (ReflectliteType.method ReflectliteType.elem #[.agg #[.pointer (some ⟨4, 89, none⟩)]]).run Tryz.prog w = .ok (.iface 180 (.agg #[.pointer (some ⟨4, 87, none⟩)])) w := by kernel_rfl
theorem nImpl (w : World) : (ReflectliteType.relation "Implements" ReflectliteType.implements_ #[.agg #[.pointer (some ⟨4, 87, none⟩)], .iface 180 (.agg #[.pointer (some ⟨4, 30, none⟩)])]).run Tryz.prog w = .ok (.bool true) w := by kernel_rfl
theorem nTypeOf (v : Value) (w : World) : (ReflectliteType.typeOf #[.iface 87 v]).run Tryz.prog w = .ok (.iface 180 (.agg #[.pointer (some ⟨4, 87, none⟩)])) w := by kernel_rfl
theorem nAssign (w : World) : (ReflectliteType.relation "AssignableTo" ReflectliteType.assignableTo #[.agg #[.pointer (some ⟨4, 87, none⟩)], .iface 180 (.agg #[.pointer (some ⟨4, 87, none⟩)])]).run Tryz.prog w = .ok (.bool true) w := by kernel_rfl
theorem nElemOf (w : World) : (Rtype.elem? 89).run Tryz.prog w = .ok (some 87) w := by kernel_rfl
theorem nMk (p : Addr) (w : World) : (ReflectliteValue.mk 87 p ReflectliteValue.flagAddr).run Tryz.prog w = .ok (.agg #[.pointer (some ⟨4, 87, none⟩), .pointer (some p), .int .u64 386]) w := by kernel_rfl
theorem nElemV (a p : Addr) (W : World) (ha : W.cell? a = some (.pointer (some p))) :
    (ReflectliteValue.method (ReflectliteValue.valueError "reflectlite.Value.Elem" 0) ReflectliteValue.elem #[.agg #[.pointer (some ⟨4, 89, none⟩), .pointer (some a), .int .u64 150]]).run Tryz.prog W
      = .ok (.agg #[.pointer (some ⟨4, 87, none⟩), .pointer (some p), .int .u64 386]) W := by
  rw [nMethod]
  simp only [Sem.run_bind, nPartsP, Result.andThen]
  simp [ReflectliteValue.elem, loadVar, isAgg, underlying, Tryz.underlying89, ha, Result.andThen, nElemOf, nMk]
theorem nPartsA (a : Addr) (w : World) : (ReflectliteValue.parts (.agg #[.pointer (some ⟨4, 87, none⟩), .pointer (some a), .int .u64 386])).run Tryz.prog w = .ok (some (87, a, 386)) w := by kernel_rfl
theorem nPartsE (a : Addr) (w : World) : (ReflectliteValue.parts (.agg #[.pointer (some ⟨4, 87, none⟩), .pointer (some a), .int .u64 130])).run Tryz.prog w = .ok (some (87, a, 130)) w := by kernel_rfl
theorem nDirect (w : World) : (Rtype.directlyAssignable 87 87).run Tryz.prog w = .ok true w := by kernel_rfl
theorem nIsAgg (w : World) : (isAgg 87).run Tryz.prog w = .ok false w := by kernel_rfl
theorem nLit1 (x y : Value) (h1 : (#[x, y] : Array Value).size = 2) (h2 : 1 < 2) : (#[x, y] : Array Value).getLit 1 h1 h2 = y := rfl
theorem nSize (w : World) : (sizeOf 87).run Tryz.prog w = .ok 1 w := by kernel_rfl
theorem nSet (ta b : Addr) (n : Int) (old : Value) (W : World) (hb : W.cell? b = some (.int .i64 n)) (ht : W.cell? ta = some old) (hf : W.frozen? ta = false) :
    (ReflectliteValue.set #[.agg #[.pointer (some ⟨4, 87, none⟩), .pointer (some ta), .int .u64 386], .agg #[.pointer (some ⟨4, 87, none⟩), .pointer (some b), .int .u64 130]]).run Tryz.prog W
      = .ok (.tuple #[]) (W.setCell ta (.int .i64 n)) := by
  change Sem.run _ (ReflectliteValue.parts (.agg #[.pointer (some ⟨4, 87, none⟩), .pointer (some ta), .int .u64 386]) >>= _) _ = _
  simp only [Sem.run_bind, nLit1, nPartsA, nPartsE, Result.andThen]
  simp [ReflectliteValue.flagAddr, loadVar, hb, Result.andThen, nDirect, storeVar, Value.cells, storeCells, Addr.add]
  rw [run_store Tryz.prog W ta _ _ (by rfl)]
  simp [ht, hf]
/-- the three blocks that errors.As makes, and the fourth -/
def asW (w : World) (t : Addr) (n : Int) : World :=
  (((w.alloc (.cells #[.pointer (some t)] 89)).alloc (.cells #[.pointer (some ⟨4, 89, none⟩), .pointer (some ⟨w.heap.size, 0, none⟩), .int .u64 150] 122)).alloc (.cells #[.pointer (some ⟨4, 89, none⟩), .pointer (some ⟨w.heap.size, 0, none⟩), .int .u64 150] 122)).alloc (.cells #[.int .i64 n] 87)
set_option maxHeartbeats 4000000 in
theorem as_hit (n : Int) (t : Addr) (old : Value) (w : World) (hg : ErrType w) (ht0 : w.cell? t = some old) (hf0 : w.frozen? t = false) :
    Calls Tryz.prog 35 #[.iface 87 (.int .i64 n), .iface 89 (.pointer (some t))] w fun ev w' => ev = .returned (.bool true) ∧ w' = (asW w t n).setCell t (.int .i64 n) := by
  unfold ErrType at hg
  unfold asW
  have h6 := @run_callFunc_extern Tryz.prog 62 _ (fun args => ReflectliteValue.unpack (args.getD 0 (.tuple #[]))) Tryz.func62 (by kernel_rfl) (by kernel_rfl) (by kernel_rfl) (by kernel_rfl)
  have h7 := @run_callFunc_extern Tryz.prog 63 _ (ReflectliteValue.methodAny (ReflectliteValue.valueError "reflectlite.Value.Type" 0) (fun t _ _ _ => ReflectliteType.toType t)) Tryz.func63 (by kernel_rfl) (by kernel_rfl) (by kernel_rfl) (by kernel_rfl)
  have h8 := @run_callFunc_extern Tryz.prog 64 _ (ReflectliteValue.method (ReflectliteValue.valueError "reflectlite.Value.IsNil" 0) ReflectliteValue.isNil) Tryz.func64 (by kernel_rfl) (by kernel_rfl) (by kernel_rfl) (by kernel_rfl)
  have h27 := @run_callFunc_extern Tryz.prog 177 _ (ReflectliteType.abiMethod fun t => do pure (.int .u8 (← Rtype.kind t))) Tryz.func177 (by kernel_rfl) (by kernel_rfl) (by kernel_rfl) (by kernel_rfl)
  have h37 := @run_callFunc_extern Tryz.prog 189 _ (ReflectliteType.method ReflectliteType.elem) Tryz.func189 (by kernel_rfl) (by kernel_rfl) (by kernel_rfl) (by kernel_rfl)
  have h38 := @run_callFunc_extern Tryz.prog 190 _ (ReflectliteType.relation "Implements" ReflectliteType.implements_) Tryz.func190 (by kernel_rfl) (by kernel_rfl) (by kernel_rfl) (by kernel_rfl)
  have h10 := @run_callFunc_extern Tryz.prog 112 _ ReflectliteType.typeOf Tryz.func112 (by kernel_rfl) (by kernel_rfl) (by kernel_rfl) (by kernel_rfl)
  have h35 := @run_callFunc_extern Tryz.prog 187 _ (ReflectliteType.relation "AssignableTo" ReflectliteType.assignableTo) Tryz.func187 (by kernel_rfl) (by kernel_rfl) (by kernel_rfl) (by kernel_rfl)
  have h11 := @run_callFunc_extern Tryz.prog 113 _ (ReflectliteValue.method (ReflectliteValue.valueError "reflectlite.Value.Elem" 0) ReflectliteValue.elem) Tryz.func113 (by kernel_rfl) (by kernel_rfl) (by kernel_rfl) (by kernel_rfl)
  have h12 := @run_callFunc_extern Tryz.prog 114 _ ReflectliteValue.set Tryz.func114 (by kernel_rfl) (by kernel_rfl) (by kernel_rfl) (by kernel_rfl)
  have tO := nTypeOf
  have mA := nMAssign 
  have aE := nAssign
  have vE := nNumOf
  have f6 := nPtrOf
  have f7 := nType
  have mK := nMKind 
  have mE := nMElem 
  have mI := nMImpl 
  have kP := nKindP
  have kE := nKindE
  have eP := nElem
  have iE := nImpl
  have n8 := nIsNil ⟨w.heap.size, 0, none⟩ t ((w.alloc (.cells #[.pointer (some t)] 89)).alloc (.cells #[.pointer (some ⟨4, 89, none⟩), .pointer (some ⟨w.heap.size, 0, none⟩), .int .u64 150] 122)) (by simp)
  have hlt : 0 < w.heap.size := World.block_lt_of_cell? w _ hg
  have hg2 : ((w.alloc (.cells #[.pointer (some t)] 89)).alloc (.cells #[.pointer (some ⟨4, 89, none⟩), .pointer (some ⟨w.heap.size, 0, none⟩), .int .u64 150] 122)).cell? ⟨0, 0, none⟩ = some (.iface 180 (.agg #[.pointer (some ⟨4, 30, none⟩)])) := by
    rw [World.cell?_alloc_lt _ _ ⟨0, 0, none⟩ (Nat.lt_of_lt_of_le hlt (by simp)), World.cell?_alloc_lt _ _ ⟨0, 0, none⟩ hlt]; exact hg
  have htl : t.block < w.heap.size := by
    rcases Nat.lt_or_ge t.block w.heap.size with h | h
    · exact h
    · simp [World.cell?, Array.getElem?_eq_none h] at ht0
  have el := nElemV ⟨w.heap.size, 0, none⟩ t (((w.alloc (.cells #[.pointer (some t)] 89)).alloc (.cells #[.pointer (some ⟨4, 89, none⟩), .pointer (some ⟨w.heap.size, 0, none⟩), .int .u64 150] 122)).alloc (.cells #[.pointer (some ⟨4, 89, none⟩), .pointer (some ⟨w.heap.size, 0, none⟩), .int .u64 150] 122)) (by rw [World.cell?_alloc_lt _ _ ⟨w.heap.size, 0, none⟩ (by simp; omega)]; simp)
  have st := nSet t ⟨w.heap.size + 1 + 1 + 1, 0, none⟩ n old ((((w.alloc (.cells #[.pointer (some t)] 89)).alloc (.cells #[.pointer (some ⟨4, 89, none⟩), .pointer (some ⟨w.heap.size, 0, none⟩), .int .u64 150] 122)).alloc (.cells #[.pointer (some ⟨4, 89, none⟩), .pointer (some ⟨w.heap.size, 0, none⟩), .int .u64 150] 122)).alloc (.cells #[.int .i64 n] 87))
    (by rw [World.cell?_alloc_at _ _ _ _ (by simp)]; rfl)
    (by rw [World.cell?_alloc_lt _ _ t (by simp; omega), World.cell?_alloc_lt _ _ t (by simp; omega), World.cell?_alloc_lt _ _ t (by simp; omega), World.cell?_alloc_lt _ _ t htl]; exact ht0)
    (by rw [World.frozen?_alloc_old _ _ t (by simp; omega), World.frozen?_alloc_old _ _ t (by simp; omega), World.frozen?_alloc_old _ _ t (by simp; omega), World.frozen?_alloc_old _ _ t (Nat.ne_of_lt htl)]; exact hf0)
  go_enter Tryz.func35, Tryz.ntmps35
  go_wp2
  refine wp_loop_rounds 1 ?_
  rw [rounds_succ]
  go_wp2
  go_ret
  exact ⟨rfl, rfl⟩
theorem asW_below (w : World) (t : Addr) (n : Int) : Below w.heap.size w (asW w t n) :=
  ((((Below.refl _ w).alloc (Nat.le_refl _) _).alloc (by simp) _).alloc (by simp; omega) _).alloc (by simp; omega) _
/-- an error's number -/
def numE : Option Nat → Int
  | none => 0
  | some n => n
theorem num_any (e : Option Nat) (w : World) (hg : ErrType w) :
    Calls Tryz.prog 11 #[errV e] w fun r w' => r = .returned (.int .i64 (numE e)) ∧ Below w.heap.size w w' := by
  cases e with
  | none =>
    show Calls Tryz.prog 11 #[.nilIface] w _
    go_enter Tryz.func11, Tryz.ntmps11
    go_wp2
    go_ret
    exact ⟨rfl, below_alloc w _⟩
  | some n =>
    show Calls Tryz.prog 11 #[.iface 87 (.int .i64 n)] w _
    have HB := Lib.hid (below_alloc w (.cells #[.int .i64 0] 87))
    have HE := Lib.hid (hg.below HB.out)
    have HA := Lib.hid (as_hit n ⟨w.heap.size, 0, none⟩ (.int .i64 0) (w.alloc (.cells #[.int .i64 0] 87)) HE.out (by rw [cell_of_row _ _ _ _ _ _ (heap_alloc_new w _)]; rfl) (frozen_of_row _ _ _ _ _ (heap_alloc_new w _)))
    have hb2 := asW_below (w.alloc (.cells #[.int .i64 0] 87)) ⟨w.heap.size, 0, none⟩ n
    have hh : (asW (w.alloc (.cells #[.int .i64 0] 87)) ⟨w.heap.size, 0, none⟩ n).heap[w.heap.size]? = some (.cells #[.int .i64 0] 87 (0, 0)) := (hb2.block _ (by simp)).trans (heap_alloc_new w _)
    have hc : ((asW (w.alloc (.cells #[.int .i64 0] 87)) ⟨w.heap.size, 0, none⟩ n).setCell ⟨w.heap.size, 0, none⟩ (.int .i64 n)).cell? ⟨w.heap.size, 0, none⟩ = some (.int .i64 n) := by
      have := heap_setCell_same _ w.heap.size 0 _ _ (.int .i64 n) hh
      rw [cell_of_row _ _ _ _ _ _ this]; rfl
    have HF := Lib.hid ((HB.out.trans (hb2.mono (by simp))).setCell (p := ⟨w.heap.size, 0, none⟩) (Nat.le_refl _) (.int .i64 (n : Int)))
    clear hb2 hh
    generalize (asW (w.alloc (.cells #[.int .i64 0] 87)) ⟨w.heap.size, 0, none⟩ n).setCell ⟨w.heap.size, 0, none⟩ (.int .i64 n) = w2 at *
    go_enter Tryz.func11, Tryz.ntmps11
    go_wp2_with (go_at_call 35; (with_reducible refine HA.out.mono ?_); rintro ev w3 ⟨rfl, rfl⟩)
    go_ret
    exact ⟨rfl, HF.out⟩
#print axioms num_any
end Go.Proofs.YtilpohdidekenaaGreatDoor
namespace Go.Proofs.YtilpohdidekenaaGreatDoor
set_option linter.unusedVariables false
set_option linter.unusedSimpArgs false
open Go.RowKit
set_option maxRecDepth 100000
/-- are the params valid? -/
def kOk (D E : Int) : Prop := 1 ≤ D ∧ D ≤ 32 ∧ 0 ≤ E ∧ E ≤ 10
instance (D E : Int) : Decidable (kOk D E) := by unfold kOk; infer_instance
def parC (D E : Int) : Array Value := #[.int .i64 D, .int .i64 E]
def ckR (D E : Int) : Option Nat := if kOk D E then none else some 20
theorem par_cells (w : World) (D E : Int) : (w.alloc (.cells (parC D E) 25)).cell? ⟨w.heap.size, 0, none⟩ = some (.int .i64 D) ∧ (w.alloc (.cells (parC D E) 25)).cell? ⟨w.heap.size, 1, none⟩ = some (.int .i64 E) :=
  ⟨by rw [cell_of_row _ _ _ _ _ _ (heap_alloc_new w _)]; rfl, by rw [cell_of_row _ _ _ _ _ _ (heap_alloc_new w _)]; rfl⟩
theorem kcheck_any (D E : Int) (w : World) : Calls Tryz.prog 12 #[.agg #[.int .i64 D, .int .i64 E]] w fun e w' => e = .returned (errV (ckR D E)) ∧ Below w.heap.size w w' := by
  obtain ⟨c0, c1⟩ := par_cells w D E
  unfold parC at c0 c1
  have HB := Lib.hid (below_alloc w (.cells #[.int .i64 D, .int .i64 E] 25))
  rcases (by omega : D < 1 ∨ (¬ D < 1 ∧ 32 < D) ∨ (¬ D < 1 ∧ ¬ 32 < D ∧ E < 0) ∨ (¬ D < 1 ∧ ¬ 32 < D ∧ ¬ E < 0 ∧ 10 < E) ∨ (¬ D < 1 ∧ ¬ 32 < D ∧ ¬ E < 0 ∧ ¬ 10 < E)) with h | ⟨h1, h⟩ | ⟨h1, h2, h⟩ | ⟨h1, h2, h3, h⟩ | ⟨h1, h2, h3, h⟩
  · have HR := Lib.hid (show ckR D E = some 20 by unfold ckR; rw [if_neg (by unfold kOk; omega)])
    go_enter Tryz.func12, Tryz.ntmps12
    go_wp2_with (fail)
    go_ret
    exact ⟨by rw [HR.out]; rfl, HB.out⟩
  · have HR := Lib.hid (show ckR D E = some 20 by unfold ckR; rw [if_neg (by unfold kOk; omega)])
    go_enter Tryz.func12, Tryz.ntmps12
    go_wp2_with (fail)
    go_ret
    exact ⟨by rw [HR.out]; rfl, HB.out⟩
  · have HR := Lib.hid (show ckR D E = some 20 by unfold ckR; rw [if_neg (by unfold kOk; omega)])
    go_enter Tryz.func12, Tryz.ntmps12
    go_wp2_with (fail)
    go_ret
    exact ⟨by rw [HR.out]; rfl, HB.out⟩
  · have HR := Lib.hid (show ckR D E = some 20 by unfold ckR; rw [if_neg (by unfold kOk; omega)])
    go_enter Tryz.func12, Tryz.ntmps12
    go_wp2_with (fail)
    go_ret
    exact ⟨by rw [HR.out]; rfl, HB.out⟩
  · have HR := Lib.hid (show ckR D E = none by unfold ckR; rw [if_pos (by unfold kOk; omega)])
    go_enter Tryz.func12, Tryz.ntmps12
    go_wp2_with (fail)
    go_ret
    exact ⟨by rw [HR.out]; rfl, HB.out⟩
theorem ksize_any (D : Int) (k : Nat) (w : World) (hk : k ≤ 10) : Calls Tryz.prog 42 #[.agg #[.int .i64 D, .int .i64 (k : Int)]] w fun e w' => e = .returned (.int .i64 ((2 ^ k : Nat) : Int)) ∧ Below w.heap.size w w' := by
  obtain ⟨c0, c1⟩ := par_cells w D k
  unfold parC at c0 c1
  have HB := Lib.hid (below_alloc w (.cells #[.int .i64 D, .int .i64 (k : Int)] 25))
  have hkI : (0 : Int) ≤ k := by omega
  go_enter Tryz.func42, Tryz.ntmps42
  go_wp2_with (fail)
  go_ret
  refine ⟨?_, HB.out⟩
  have h2 : (2 : Int) ^ k = ((2 ^ k : Nat) : Int) := by simp
  have h3 : 2 ^ k ≤ 1024 := Nat.pow_le_pow_right (n := 2) (by omega) hk
  have e2 : wrap64 ((2 : Int) ^ k) = ((2 ^ k : Nat) : Int) := by rw [h2]; generalize 2 ^ k = m at h3; exact IntWalk.wrap64_in _ ⟨by omega, by omega⟩
  exact congrArg (fun x => Ending.returned (Value.int IntKind.i64 x)) e2
end Go.Proofs.YtilpohdidekenaaGreatDoor

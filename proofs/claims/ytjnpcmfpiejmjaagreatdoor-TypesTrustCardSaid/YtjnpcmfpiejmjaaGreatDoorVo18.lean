/- Part 18 of the proof. -/
import Derived.LaidEql
import Derived.Stop.Asserts
import Derived.RowKitTokens
import Derived.Lib.IfaceEq
import Derived.Test.YtjnpcmfpiejmjaaGreatDoorVo1
import Derived.Test.YtjnpcmfpiejmjaaGreatDoorVo17
namespace Go.Proofs.YtjnpcmfpiejmjaaGreatDoor
set_option linter.unusedVariables false
set_option linter.unusedSimpArgs false
open Go.RowKit
set_option maxRecDepth 100000
theorem or_add (a b i : Nat) (h : b < 2 ^ i) : a * 2 ^ i ||| b = a * 2 ^ i + b := by
  rw [Nat.mul_comm]; exact (Nat.two_pow_add_eq_or_of_lt h a).symm
theorem or4 (a b c d : Nat) (ha : a < 256) (hb : b < 256) (hc : c < 256) (hd : d < 256) :
    bits .or .u32 (bits .or .u32 (bits .or .u32 ((a : Int) * 16777216) ((b : Int) * 65536)) ((c : Int) * 256)) (d : Int) = ((a * 16777216 + b * 65536 + c * 256 + d : Nat) : Int) := by
  have e1 := u32_or_nat (a * 16777216) (b * 65536) (by omega) (by omega)
  have o1 := or_add a (b * 65536) 24 (by omega)
  rw [show (2 : Nat) ^ 24 = 16777216 from rfl] at o1
  rw [o1] at e1
  have e2 := u32_or_nat (a * 16777216 + b * 65536) (c * 256) (by omega) (by omega)
  have o2 := or_add (a * 256 + b) (c * 256) 16 (by omega)
  rw [show (2 : Nat) ^ 16 = 65536 from rfl, show (a * 256 + b) * 65536 = a * 16777216 + b * 65536 by omega] at o2
  rw [o2] at e2
  have e3 := u32_or_nat (a * 16777216 + b * 65536 + c * 256) d (by omega) (by omega)
  have o3 := or_add (a * 65536 + b * 256 + c) d 8 (by omega)
  rw [show (2 : Nat) ^ 8 = 256 from rfl, show (a * 65536 + b * 256 + c) * 256 = a * 16777216 + b * 65536 + c * 256 by omega] at o3
  rw [o3] at e3
  rw [show ((a : Int) * 16777216) = ((a * 16777216 : Nat) : Int) by omega, show ((b : Int) * 65536) = ((b * 65536 : Nat) : Int) by omega, show ((c : Int) * 256) = ((c * 256 : Nat) : Int) by omega, e1, e2, e3]
theorem lit4_in (w : World) (a b c d : Int) : BytesIn (w.alloc (.cells #[.int .u8 a, .int .u8 b, .int .u8 c, .int .u8 d] 5)) (.slice (some ⟨w.heap.size, 0, none⟩) 4 4) [a, b, c, d] := by
  refine ⟨_, _, rfl, by simp, by simp [maxLen], .inr ⟨_, _, rfl, fun i x hi => ?_⟩⟩
  rw [Nat.zero_add, cell_of_row _ _ _ _ _ _ (heap_alloc_new w _)]
  match i, hi with
  | 0, hi => cases hi; rfl
  | 1, hi => cases hi; rfl
  | 2, hi => cases hi; rfl
  | 3, hi => cases hi; rfl
theorem grown_alloc {w w' : World} {o : Obj} {r : Option Nat} (h : (w.alloc o).grownBy w' r) : w.grownBy w' r :=
  ⟨h.os, h.tape, h.output, Nat.le_trans (by simp) h.size, fun k hk hne => (h.block k (by simp; omega) hne).trans (Below.heap_alloc w o k hk)⟩
theorem OwnOf.alloc {v v' : Value} {w : World} {o : Obj} (h : OwnOf v v' (w.alloc o)) : OwnOf v v' w := by
  rcases h with h | ⟨k, h1, h2⟩
  · exact .inl h
  · exact .inr ⟨k, h1, by simp at h2; omega⟩
theorem wordI (m : Nat) (h : m < 4294967296) : [(m : Int) / 16777216, (m : Int) / 65536 % 256, (m : Int) / 256 % 256, (m : Int) % 256] = wordL m := by
  unfold wordL
  rw [Nat.mod_eq_of_lt (show m / 16777216 < 256 by omega), Int.natCast_ediv, Int.natCast_emod, Int.natCast_ediv, Int.natCast_emod, Int.natCast_ediv, Int.natCast_emod]
  rfl
end Go.Proofs.YtjnpcmfpiejmjaaGreatDoor
namespace Go.Proofs.YtjnpcmfpiejmjaaGreatDoor
set_option linter.unusedVariables false
set_option linter.unusedSimpArgs false
open Go.RowKit
set_option maxRecDepth 100000
theorem byteVals_len (xs : List Int) : (byteVals xs).length = xs.length := by simp [byteVals]
def FrameOk (ys : List Int) (w : World) (e : Ending) (w' : World) : Prop :=
  ∃ v', e = .returned (.tuple #[v', .nilIface]) ∧ w'.ownsRow w.heap.size 5 1 v' (recF ys).length (byteVals (recF ys)) ∧ Below w.heap.size w w'
end Go.Proofs.YtjnpcmfpiejmjaaGreatDoor
namespace Go.Proofs.YtjnpcmfpiejmjaaGreatDoor
set_option linter.unusedVariables false
set_option linter.unusedSimpArgs false
open Go.RowKit
set_option maxRecDepth 100000
theorem quiet_left {P : Program} {f : FuncId} {args : Array Value} {w : World} {n : Nat} {v : Value}
    (h : Calls P f args (w.drewN n) fun e w' => e = .returned v ∧ w.drewN n = w') : Calls P f args (w.drewN n) fun e w'' => e = .returned v ∧ ∃ m, w'' = w.drewN m :=
  h.mono fun _ _ ⟨he, hm⟩ => ⟨he, n, hm.symm⟩
theorem below_drewN (w : World) (n : Nat) : Below w.heap.size w (w.drewN n) := ⟨rfl, rfl, rfl, Nat.le_refl _, fun _ _ => rfl⟩
theorem BytesIn.drewN {w : World} {y : Value} {ys : List Int} (h : BytesIn w y ys) (n : Nat) : BytesIn (w.drewN n) y ys := h
def OnePost (r : Option Nat × List Int) (w : World) (e : Ending) (w' : World) : Prop :=
  Below w.heap.size w w' ∧ match r.1 with
    | some k => e = .returned (.tuple #[.slice none 0 0, .int .i64 0, errV (some k)])
    | none => ∃ v', e = .returned (.tuple #[v', .int .i64 ((r.2.length + 12 : Nat) : Int), .nilIface]) ∧ w'.ownsRow w.heap.size 5 1 v' r.2.length (byteVals r.2)
theorem BytesIn.from {w : World} {a : Option Addr} {n cap : Nat} {xs : List Int} (h : BytesIn w (.slice a n cap) xs) (p : Nat) (hp : p ≤ n) : BytesIn w (.slice (cutA a cap p) (n - p) (cap - p)) (xs.drop p) := by
  have h1 := h.cut p n hp (Nat.le_refl _)
  rw [List.take_of_length_le (by have := h.cell.1; omega)] at h1
  exact h1
theorem BytesIn.upto {w : World} {a : Option Addr} {n cap : Nat} {xs : List Int} (h : BytesIn w (.slice a n cap) xs) (q : Nat) (hq : q ≤ n) : BytesIn w (.slice (cutA a cap 0) q cap) (xs.take q) := h.cut 0 q (Nat.zero_le _) hq
theorem owns_base {w : World} {base base' n : Nat} {v : Value} {vs : List Value} (h : w.ownsRow base 5 1 v n vs) (hb : base' ≤ base) : w.ownsRow base' 5 1 v n vs := by
  obtain ⟨h1, h2⟩ := h
  refine ⟨h1, ?_⟩
  rcases h2 with h2 | ⟨g, c, cur, e1, e2, r⟩
  · exact .inl h2
  · exact .inr ⟨g, c, cur, e1, Nat.le_trans hb e2, r⟩
end Go.Proofs.YtjnpcmfpiejmjaaGreatDoor
namespace Go.Proofs.YtjnpcmfpiejmjaaGreatDoor
set_option linter.unusedVariables false
set_option linter.unusedSimpArgs false
open Go.RowKit Go.Extern.Stop Go.Stop Go.Extern
set_option maxRecDepth 100000
theorem isTypeOf (v : Value) (w : World) : (ReflectliteType.typeOf #[.iface 103 v]).run Tryz.prog w = .ok (.iface 247 (.agg #[.pointer (some ⟨3, 103, none⟩)])) w := by kernel_rfl
theorem isComparable (w : World) : ((ReflectliteType.method fun t => do Rtype.noPackHeld "Comparable" t; pure (.bool (← typeInfo t).comparable)) #[.agg #[.pointer (some ⟨3, 103, none⟩)]]).run Tryz.prog w = .ok (.bool true) w := by kernel_rfl
theorem isMethodComparable (m : Nat) (v : Value) (w : World) : (Go.method (m + 1) 247 v "Comparable").run Tryz.prog w = .ok (224, v) w := by kernel_rfl
theorem isCompCall (w : World) : (callFunc 224 #[.agg #[.pointer (some ⟨3, 103, none⟩)]]).run Tryz.prog w = .ok (.value (.bool true)) w := by
  rw [@run_callFunc_extern Tryz.prog 224 _ (ReflectliteType.method fun t => do Rtype.noPackHeld "Comparable" t; pure (.bool (← typeInfo t).comparable)) Tryz.func224 (by kernel_rfl) (by kernel_rfl) (by kernel_rfl) (by kernel_rfl), isComparable]
  rfl
theorem isComp : (Tryz.prog.info? 103).map (·.comparable) = some true := by kernel_rfl
theorem noUnwrapE (v : Value) (xT : TypeId) (w : World) : (Instr.typeAssert (.iface 103 v) xT 255 true).run Tryz.prog w = .ok (.tuple #[.nilIface, .bool false]) w := run_typeAssert_lacksB Tryz.underlying255 (by kernel_rfl) (by kernel_rfl) v xT w
theorem noUnwrapsE (v : Value) (xT : TypeId) (w : World) : (Instr.typeAssert (.iface 103 v) xT 256 true).run Tryz.prog w = .ok (.tuple #[.nilIface, .bool false]) w := run_typeAssert_lacksB Tryz.underlying256 (by kernel_rfl) (by kernel_rfl) v xT w
end Go.Proofs.YtjnpcmfpiejmjaaGreatDoor
namespace Go.Proofs.YtjnpcmfpiejmjaaGreatDoor
set_option linter.unusedVariables false
set_option linter.unusedSimpArgs false
open Go.RowKit
set_option maxRecDepth 100000
theorem ext0 (x y z : Value) (w : World) : (Instr.extract (.tuple #[x, y, z]) 0).run Tryz.prog w = .ok x w := rfl
theorem ext1 (x y z : Value) (w : World) : (Instr.extract (.tuple #[x, y, z]) 1).run Tryz.prog w = .ok y w := rfl
theorem ext2 (x y z : Value) (w : World) : (Instr.extract (.tuple #[x, y, z]) 2).run Tryz.prog w = .ok z w := rfl
/-- what bytes hold: payloads, how many bytes, why no more -/
def scanG : Nat → List Int → List (List Int) × Nat × Option Nat
  | 0, _ => ([], 0, none)
  | f + 1, b => match oneF b with
    | (none, p) => (p :: (scanG f (b.drop (p.length + 12))).1, p.length + 12 + (scanG f (b.drop (p.length + 12))).2.1, (scanG f (b.drop (p.length + 12))).2.2)
    | (some k, _) => ([], 0, if k = 8 then none else some k)
def scanF (b : List Int) : List (List Int) × Nat × Option Nat := scanG b.length b
theorem oneF_cases (b : List Int) : (∃ k, oneF b = (some k, []) ∧ (k = 8 ↔ b.length = 0) ∧ (k = 8 ∨ k = 11 ∨ k = 12)) ∨ (∃ p, oneF b = (none, p) ∧ p.length + 12 ≤ b.length ∧ 0 < p.length ∧ p.length ≤ 1048576) := by
  unfold oneF
  split
  · next h => exact .inl ⟨8, rfl, by simp [h], by simp⟩
  · next h =>
    split
    · exact .inl ⟨12, rfl, by simp [h], by simp⟩
    · split
      · exact .inl ⟨11, rfl, by simp [h], by simp⟩
      · next h1 =>
        split
        · exact .inl ⟨12, rfl, by simp [h], by simp⟩
        · split
          · exact .inl ⟨11, rfl, by simp [h], by simp⟩
          · refine .inr ⟨_, rfl, ?_, ?_, ?_⟩ <;> rw [List.length_drop, List.length_take] <;> omega
/-- a slice of slices of bytes, each in a block of its own -/
def ListsIn (w : World) (B : Nat) (own : Option Nat) (vs : List Value) (ps : List (List Int)) : Prop :=
  vs.length = ps.length ∧ ∀ (i : Nat) (v : Value) (p : List Int), vs[i]? = some v → ps[i]? = some p → BytesIn w v p ∧ ∀ k, v.ownBlock = some k → B ≤ k ∧ some k ≠ own ∧ k < w.heap.size
theorem ListsIn.nil (w : World) (B : Nat) (own : Option Nat) : ListsIn w B own [] [] := ⟨rfl, fun i v p h => by simp at h⟩
theorem BytesIn.grown {w w' : World} {own : Option Nat} {v : Value} {p : List Int} (h : BytesIn w v p) (hg : w.grownBy w' own) (hne : ∀ k, v.ownBlock = some k → some k ≠ own) : BytesIn w' v p := by
  obtain ⟨a, c, rfl, hc, hm, hx⟩ := h
  refine ⟨a, c, rfl, hc, hm, ?_⟩
  rcases hx with hx | ⟨ab, ao, rfl, hx⟩
  · exact .inl hx
  · exact .inr ⟨ab, ao, rfl, fun i y hi => (World.cell?_of_block (hg.block ab (World.block_lt_of_cell? w _ (hx i y hi)) (hne ab rfl))).trans (hx i y hi)⟩
theorem ListsIn.below {w w' : World} {B : Nat} {own : Option Nat} {vs : List Value} {ps : List (List Int)} (h : ListsIn w B own vs ps) (hb : Below w.heap.size w w') : ListsIn w' B own vs ps :=
  ⟨h.1, fun i v p hv hp => ⟨(h.2 i v p hv hp).1.below hb, fun k hk => ⟨((h.2 i v p hv hp).2 k hk).1, ((h.2 i v p hv hp).2 k hk).2.1, Nat.lt_of_lt_of_le ((h.2 i v p hv hp).2 k hk).2.2 hb.size⟩⟩⟩
theorem infoBs : (Tryz.prog.info? 23).map (fun i => (i.zero, i.size, i.bytes)) = some (some (.slice none 0 0), 1, 24) := by kernel_rfl
/-- append of one slice -/
theorem wpList_append_slice {w : World} {ops : Array Oper} {rest : List Oper} {o : Oper} {a : Act} {Q : Exit → Act → World → Prop} (hgd : o.guard = none) (s x : Operand)
    (ho : o.op = .call { callee := .builtin .append, args := #[s, x], argTypes := #[56, 56] }) (hty : o.type = 56)
    (base : Nat) (v : Value) (vs : List Value) (hs : a.eval s = v) (hown : w.ownsRow base 23 1 v vs.length vs) (b : Addr) (y : Value) (hx : a.eval x = .slice (some b) 1 1) (hy : w.cell? b = some y) (hy1 : y.oneCell' = true) (hl : vs.length < 1099511627776) (hb : base ≤ w.heap.size)
    (h : ∀ v' w', w'.ownsRow base 23 1 v' (vs ++ [y]).length (vs ++ [y]) → w.grownBy w' v.ownBlock → (v'.ownBlock = v.ownBlock ∨ v'.ownBlock = some w.heap.size) → wpList Tryz.prog ops Q rest (a.put o.dst v') w') : wpList Tryz.prog ops Q (o :: rest) a w := by
  refine wpList_plain hgd fun K hK => ?_
  obtain ⟨i0, hi, hz0, hz1, hz2⟩ := info_parts infoBs
  obtain ⟨v', w', hr, h1, h2, _, h4⟩ := run_append_own_at w base 56 56 23 i0 (.slice none 0 0) 1 24 Tryz.underlying56 hi hz0 hz1 hz2 rfl (by decide) v vs.length vs hown b 1 1 [y] rfl (fun j u hu => by
      match j, hu with
      | 0, hu => cases hu; rw [show b.add 0 = b by simp [Addr.add]]; exact hy) (fun u hu => by simp at hu; rw [hu]; exact hy1) (by unfold maxLen; omega) (by omega) hb
  unfold Oper.wp execOp
  simp only [ho, hty, resolve, invoke, builtin, Sem.run_bind, Sem.run_pure, Result.andThen_ok, List.map_toArray, List.map_cons, List.map_nil, hs, hx, hr]
  exact hK _ _ (h v' w' (by rw [List.length_append]; exact h1) h2 h4)
structure ScanSt (b : List Int) (w : World) (v : Value) (k : Nat) (f : Nat) (vs : List Value) (ps : List (List Int)) (wr : World) : Prop where
  fuel : b.length - k ≤ f
  le : k ≤ b.length
  eq : scanF b = (ps ++ (scanG f (b.drop k)).1, k + (scanG f (b.drop k)).2.1, (scanG f (b.drop k)).2.2)
  own : wr.ownsRow w.heap.size 23 1 v vs.length vs
  lists : ListsIn wr w.heap.size v.ownBlock vs ps
  few : vs.length ≤ k
  below : Below w.heap.size w wr
def ScanAt (b : List Int) (w : World) (v : Value) (k : Nat) (wr : World) : Prop := ∃ f vs ps, ScanSt b w v k f vs ps wr
def ScanPost (b : List Int) (w : World) (e : Ending) (w' : World) : Prop :=
  ∃ v vs, e = .returned (.tuple #[v, .int .i64 (((scanF b).2.1 : Nat) : Int), errV (scanF b).2.2]) ∧ w'.ownsRow w.heap.size 23 1 v vs.length vs ∧ ListsIn w' w.heap.size v.ownBlock vs (scanF b).1 ∧ Below w.heap.size w w'
theorem ScanAt.stop {b : List Int} {w wr w' : World} {v : Value} {k : Nat} {x : Nat} (h : ScanAt b w v k wr) (hx : oneF (b.drop k) = (some x, [])) (hb : Below wr.heap.size wr w') :
    ScanPost b w (.returned (.tuple #[v, .int .i64 (k : Int), errV (if x = 8 then none else some x)])) w' := by
  obtain ⟨f, vs, ps, h⟩ := h
  have hg : scanG f (b.drop k) = ([], 0, if x = 8 then none else some x) := by
    cases f with
    | zero =>
      have h0 : (b.drop k).length = 0 := by rw [List.length_drop]; have := h.fuel; omega
      rcases oneF_cases (b.drop k) with ⟨y, hy, h8, _⟩ | ⟨p, hp, hl, _⟩
      · rw [hx] at hy
        obtain rfl : x = y := by simpa using hy
        rw [if_pos (h8.2 h0)]; rfl
      · omega
    | succ f => simp only [scanG, hx]
  have he := h.eq
  rw [hg] at he
  simp only [List.append_nil, Nat.add_zero] at he
  refine ⟨v, vs, by rw [he], h.own.kept (row := none) ⟨hb.os, hb.tape, hb.output, hb.size, fun k hk _ => hb.block k hk⟩ (by cases v.ownBlock <;> simp), ?_, h.below.trans (hb.mono h.below.size)⟩
  rw [he]
  exact h.lists.below hb
theorem kept_below {w w' : World} {B e n : Nat} {v : Value} {vs : List Value} (h : w.ownsRow B e 1 v n vs) (hb : Below w.heap.size w w') : w'.ownsRow B e 1 v n vs :=
  h.kept (row := none) ⟨hb.os, hb.tape, hb.output, hb.size, fun k hk _ => hb.block k hk⟩ (by cases v.ownBlock <;> simp)
/-- one record more -/
theorem ScanAt.next {b : List Int} {w wr w1 w2 w3 : World} {v y v' : Value} {k : Nat} {p : List Int} {vs : List Value} {f : Nat} {ps : List (List Int)} (h : ScanSt b w v k f vs ps wr) (hx : oneF (b.drop k) = (none, p)) (hb : Below wr.heap.size wr w1) (hy : w1.ownsRow wr.heap.size 5 1 y p.length (byteVals p))
    (hb2 : Below w1.heap.size w1 w2) (hg : w2.grownBy w3 v.ownBlock) (hof : v'.ownBlock = v.ownBlock ∨ v'.ownBlock = some w2.heap.size) (ho : w3.ownsRow w.heap.size 23 1 v' (vs ++ [y]).length (vs ++ [y])) : ScanAt b w v' (k + (p.length + 12)) w3 := by
  obtain ⟨hl12, hl0, hlm⟩ : p.length + 12 ≤ (b.drop k).length ∧ 0 < p.length ∧ p.length ≤ 1048576 := by
    rcases oneF_cases (b.drop k) with ⟨x, h1, _⟩ | ⟨q, h1, h2⟩
    · rw [hx] at h1; simp at h1
    · rw [hx] at h1
      obtain rfl : p = q := by simpa using h1
      exact h2
  rw [List.length_drop] at hl12
  have hfu := h.fuel
  obtain ⟨f, rfl⟩ : ∃ g, f = g + 1 := ⟨f - 1, by omega⟩
  have he := h.eq
  have hs : scanG (f + 1) (b.drop k) = (p :: (scanG f (b.drop (k + (p.length + 12)))).1, p.length + 12 + (scanG f (b.drop (k + (p.length + 12)))).2.1, (scanG f (b.drop (k + (p.length + 12)))).2.2) := by
    simp only [scanG, hx, List.drop_drop]
  rw [hs] at he
  have hw12 : Below wr.heap.size wr w2 := hb.trans (hb2.mono hb.size)
  have hle := h.below.size
  refine ⟨f, vs ++ [y], ps ++ [p], by omega, by omega, ?_, ho, ⟨by simp [h.lists.1], fun i u q hu hq => ?_⟩, by have := h.few; simp; omega, (h.below.trans (hw12.mono h.below.size)).grown hg (Nat.le_trans h.below.size hw12.size) (fun j hj => (h.own.lt j hj).1)⟩
  · rw [he]
    refine Prod.ext (by simp) (Prod.ext ?_ rfl)
    show k + (p.length + 12 + _) = k + (p.length + 12) + _
    omega
  · rcases Nat.lt_or_ge i vs.length with hi | hi
    · rw [List.getElem?_append_left hi] at hu
      rw [List.getElem?_append_left (by rw [← h.lists.1]; exact hi)] at hq
      obtain ⟨h1, h2⟩ := h.lists.2 i u q hu hq
      refine ⟨(h1.below hw12).grown hg fun j hj => (h2 j hj).2.1, fun j hj => ⟨(h2 j hj).1, ?_, Nat.lt_of_lt_of_le (h2 j hj).2.2 (Nat.le_trans hw12.size hg.size)⟩⟩
      rcases hof with e | e
      · rw [e]; exact (h2 j hj).2.1
      · rw [e]; intro e; injection e with e; have := (h2 j hj).2.2; have := hw12.size; omega
    · rw [List.getElem?_append_right hi] at hu
      rw [List.getElem?_append_right (by rw [← h.lists.1]; exact hi), ← h.lists.1] at hq
      obtain ⟨rfl, h0⟩ : u = y ∧ i - vs.length = 0 := by
        rcases Nat.eq_zero_or_pos (i - vs.length) with e | e
        · rw [e] at hu; simp at hu; exact ⟨hu.symm, e⟩
        · rw [List.getElem?_eq_none (by simp; omega)] at hu; cases hu
      rw [h0] at hq
      obtain rfl : p = q := by simpa using hq
      have hlt := fun j hj => hy.lt j hj
      have hne : ∀ j, u.ownBlock = some j → some j ≠ v.ownBlock := fun j hj e => by
        have h1 := h.own.lt j e.symm
        have h2 := hlt j hj
        omega
      refine ⟨((owns_in hy (by unfold maxLen; omega)).below hb2).grown hg hne, fun j hj => ⟨Nat.le_trans hle (hlt j hj).1, ?_, Nat.lt_of_lt_of_le (hlt j hj).2 (Nat.le_trans hb2.size hg.size)⟩⟩
      rcases hof with e | e
      · rw [e]; exact hne j hj
      · rw [e]; intro e; injection e with e; have := (hlt j hj).2; have := hb2.size; omega
theorem slice_one (y : Value) (ys : List Int) (w : World) (B n : Nat) (h : w.ownsRow B 5 1 y n (byteVals ys)) : y.oneCell' = true ∧ ∃ a c, y = .slice a n c := by
  obtain ⟨a, c, rfl⟩ := owns_wide h
  exact ⟨rfl, a, c, rfl⟩
end Go.Proofs.YtjnpcmfpiejmjaaGreatDoor
namespace Go.Proofs.YtjnpcmfpiejmjaaGreatDoor
set_option linter.unusedVariables false
set_option linter.unusedSimpArgs false
open Go.RowKit
set_option maxRecDepth 100000
theorem wp_append_hashes {w : World} {o : Oper} {a : Act} {K : Act → World → Prop} {Q : Exit → Act → World → Prop} (s x : Operand)
    (ho : o.op = .call { callee := .builtin .append, args := #[s, x], argTypes := #[109, 109] }) (hty : o.type = 109)
    (base : Nat) (v : Value) (n : Nat) (vs : List Value) (hs : a.eval s = v) (hown : w.ownsRow base 32 32 v n vs) (y : Value) (ps : List (Nat → Int)) (hx : a.eval x = y) (hy : HashesIn w y ps) (hl : (n + ps.length) * 32 ≤ 140737488355328) (hb : base ≤ w.heap.size)
    (h : ∀ v' w', w'.ownsRow base 32 32 v' (n + ps.length) (vs ++ flatC ps) → w.grownBy w' v.ownBlock → K (a.put o.dst v') w') : o.wp Tryz.prog a w K Q := by
  obtain ⟨v', w', hr, h1, h2⟩ := run_append_hashes w base v n vs hown y ps hy hl hb
  unfold Oper.wp execOp
  simp only [ho, hty, resolve, invoke, builtin, Sem.run_bind, Sem.run_pure, Result.andThen_ok, List.map_toArray, List.map_cons, List.map_nil, hs, hx, hr]
  exact h v' w' h1 h2
theorem one_hash {w : World} {g : Nat} {f : Nat → Int} (h : RowAt w g .u8 32 32 f) : HashesIn w (.slice (some ⟨g, 0, none⟩) 1 1) [f] := by
  refine ⟨_, _, rfl, Nat.le_refl _, by unfold maxLen; decide, .inr ⟨g, 0, rfl, h.lt, fun i hi j v hv => ?_⟩⟩
  have hi0 : i = 0 := by simpa using hi
  subst hi0
  have := h.range j v hv
  rw [Nat.zero_mul, Nat.zero_add]
  rw [Nat.zero_add] at this
  exact this
def sgC (leaf : Nat) (vo vp : Value) : Array Value := #[.int .i64 (leaf : Int), vo, vp]
/-- a Reader's bytes don't lie in a signature's cells -/
theorem RAt.off {w : World} {p q : Nat} {y : Value} {ys : List Int} {e : Option Nat} {leaf : Nat} {a b : Option Addr} {n c m d : Nat} (h : RAt w p y ys e) (hq : w.heap[q]? = some (.cells (sgC leaf (.slice a n c) (.slice b m d)) 198 (0, 0))) (hn : ys ≠ []) : ∀ k, y.ownBlock = some k → k ≠ q := by
  rintro k hk rfl
  obtain ⟨a', c', rfl, _, _, hx⟩ := h.in_
  obtain ⟨ab, ao, rfl, hx2⟩ := hx.resolve_left hn
  have hk2 : ab = k := by simpa [Value.ownBlock] using hk
  subst hk2
  cases ys with
  | nil => exact absurd rfl hn
  | cons x r =>
    have := hx2 0 x rfl
    rw [cell_of_row _ _ _ _ _ _ hq] at this
    unfold sgC at this
    rw [Nat.add_zero] at this
    match ao, this with
    | 0, h => simp at h
    | 1, h => simp at h
    | 2, h => simp at h
    | n + 3, h => simp at h
/-- what lies in memory while a signature is decoded: the result's zeros, the Reader p, the signature q, all else behind B -/
structure DecM (w w' : World) (p q B : Nat) (leaf : Nat) (vo vp : Value) (once : List Int) (s : RSt) (ps : List (Nat → Int)) : Prop where
  below : Below w.heap.size w w'
  res : w'.heap[w.heap.size]? = some (.cells (sgC 0 (.slice none 0 0) (.slice none 0 0)) 198 (0, 0))
  sig : w'.heap[q]? = some (.cells (sgC leaf vo vp) 198 (0, 0))
  rd : ∃ y, RAt w' p y s.1 s.2 ∧ (s.1 ≠ [] → ∀ k, y.ownBlock = some k → k ≠ q ∧ k < B)
  oin : BytesIn w' vo once
  oown : once ≠ [] → ∀ k, vo.ownBlock = some k → q < k ∧ k < B
  path : w'.ownsRow B 32 32 vp ps.length (flatC ps)
  hp : w.heap.size < p
  hq : p < q
  hB : q < B
  size : B ≤ w'.heap.size
theorem BytesIn.only0 {w w' : World} {y : Value} {ys : List Int} {p : Nat} (h : BytesIn w y ys) (ho : Only p w w') (hn : ys ≠ [] → ∀ k, y.ownBlock = some k → k ≠ p) : BytesIn w' y ys := by
  by_cases he : ys = []
  · subst he
    obtain ⟨a, c, rfl, h1, h2, _⟩ := h
    exact ⟨a, c, rfl, h1, h2, .inl rfl⟩
  · exact h.only ho (hn he)
theorem Only.grown {p : Nat} {w w' : World} (h : Only p w w') : w.grownBy w' (some p) := ⟨h.os, h.tape, h.output, h.size, fun k hk hne => h.block k hk fun e => hne (by rw [e])⟩
theorem uintS_le (s : RSt) (most : Nat) : (uintS s most).1 ≤ most := by
  obtain ⟨ys, e⟩ := s
  cases e with
  | some x => rw [uintS_err]; exact Nat.zero_le _
  | none =>
    cases h : (rdF ys most).2.2 with
    | some x => rw [uintS_bad h]; exact Nat.zero_le _
    | none => rw [uintS_good h]; exact (rdF_ok h).2.2
theorem DecM.call {w w' w2 : World} {p q B leaf : Nat} {vo vp : Value} {once : List Int} {s : RSt} {ps : List (Nat → Int)} (m : DecM w w' p q B leaf vo vp once s ps) (h : Below w'.heap.size w' w2) : DecM w w2 p q B leaf vo vp once s ps := by
  obtain ⟨y, hy, hn⟩ := m.rd
  exact ⟨m.below.trans (h.mono m.below.size), (h.block _ (Array.getElem?_eq_some_iff.1 m.res).1).trans m.res, (h.block _ (Array.getElem?_eq_some_iff.1 m.sig).1).trans m.sig, ⟨y, hy.below h, hn⟩, m.oin.below h, m.oown, m.path.kept (grown_of_below h) (own_ne m.path), m.hp, m.hq, m.hB, Nat.le_trans m.size h.size⟩
theorem DecM.hash {w w' w2 : World} {p q B leaf : Nat} {vo vp : Value} {once : List Int} {s s2 : RSt} {ps : List (Nat → Int)} {y y2 : Value} (m : DecM w w' p q B leaf vo vp once s ps) (hy : s.1 ≠ [] → ∀ k, y.ownBlock = some k → k ≠ q ∧ k < B) (hs : s2.1 ≠ [] → s.1 ≠ []) (hr : RAt w2 p y2 s2.1 s2.2) (ho2 : y2.ownBlock = y.ownBlock) (h : Only p w' w2) : DecM w w2 p q B leaf vo vp once s2 ps :=
  ⟨m.below.trans (h.below (Nat.le_of_lt m.hp) m.below.size), (h.block _ (Array.getElem?_eq_some_iff.1 m.res).1 (by have := m.hp; omega)).trans m.res, (h.block _ (Array.getElem?_eq_some_iff.1 m.sig).1 (by have := m.hq; omega)).trans m.sig,
    ⟨y2, hr, fun hn k hk => hy (hs hn) k (ho2 ▸ hk)⟩, m.oin.only0 h fun hn k hk => (by have h1 := (m.oown hn k hk).1; have h2 := m.hq; omega), m.oown, m.path.kept h.grown (.inr fun e => by have h1 := (m.path.lt p e).1; have := m.hq; have := m.hB; omega), m.hp, m.hq, m.hB, Nat.le_trans m.size h.size⟩
theorem sgC_set (leaf : Nat) (vo vp vp' : Value) : (sgC leaf vo vp).setIfInBounds 2 vp' = sgC leaf vo vp' := rfl
theorem sgC_set1 (leaf : Nat) (vo vo' vp : Value) : (sgC leaf vo vp).setIfInBounds 1 vo' = sgC leaf vo' vp := rfl
theorem flatC_app1 (ps : List (Nat → Int)) (f : Nat → Int) : flatC ps ++ flatC [f] = flatC (ps ++ [f]) := by
  rw [flatC_snoc]; show flatC ps ++ ((rowOf .u8 32 f).toList ++ []) = _; rw [List.append_nil]
/-- one hash more -/
theorem DecM.more {w w' w3 : World} {p q B leaf : Nat} {vo vp vp' : Value} {once : List Int} {s : RSt} {ps : List (Nat → Int)} {f : Nat → Int} (m : DecM w w' p q B leaf vo vp once s ps) (hg : w'.grownBy w3 vp.ownBlock) (ho : w3.ownsRow B 32 32 vp' (ps.length + [f].length) (flatC ps ++ flatC [f])) :
    w3.heap[q]? = some (.cells (sgC leaf vo vp) 198 (0, 0)) ∧ DecM w (w3.setCell ⟨q, 2, none⟩ vp') p q B leaf vo vp' once s (ps ++ [f]) := by
  have hB := m.hB
  have hq := m.hq
  have hp := m.hp
  have hsz := m.size
  have hne : ∀ k, k < B → vp.ownBlock ≠ some k := fun k hk e => by have := (m.path.lt k e).1; omega
  have hs3 : w'.heap.size ≤ w3.heap.size := hg.size
  have hO := Only.setCell w3 ⟨q, 2, none⟩ vp'
  have hb : ∀ k, k < B → k ≠ q → (w3.setCell ⟨q, 2, none⟩ vp').heap[k]? = w'.heap[k]? := fun k hk hkq => (hO.block k (by omega) hkq).trans (hg.block k (by omega) (fun e => hne k hk e.symm))
  have hsig : w3.heap[q]? = some (.cells (sgC leaf vo vp) 198 (0, 0)) := (hg.block q (by omega) (fun e => hne q hB e.symm)).trans m.sig
  obtain ⟨y, hy, hn⟩ := m.rd
  refine ⟨hsig, ⟨?_, (hb _ (by omega) (by omega)).trans m.res, ?_, ⟨y, hy.keep (hb p (by omega) (by omega)) fun h0 k hk => hb k (hn h0 k hk).2 (hn h0 k hk).1, hn⟩, ?_, m.oown, ?_, hp, hq, hB, Nat.le_trans (Nat.le_trans hsz hs3) hO.size⟩⟩
  · exact ⟨hO.os.trans (hg.os.trans m.below.os), hO.tape.trans (hg.tape.trans m.below.tape), hO.output.trans (hg.output.trans m.below.output), Nat.le_trans m.below.size (Nat.le_trans hs3 hO.size), fun k hk => (hb k (by omega) (by omega)).trans (m.below.block k hk)⟩
  · rw [heap_setCell_same w3 q 2 _ _ _ hsig, sgC_set]
  · by_cases he : once = []
    · subst he
      obtain ⟨a, c, rfl, h1, h2, _⟩ := m.oin
      exact ⟨a, c, rfl, h1, h2, .inl rfl⟩
    · refine (m.oin.grown hg fun k hk e => hne k (m.oown he k hk).2 e.symm).only0 hO fun _ k hk => (by show k ≠ q; have h1 := (m.oown he k hk).1; omega)
  · have := ho.kept hO.grown (.inr fun e => by have := (ho.lt q e).1; omega)
    rw [List.length_append]
    rw [flatC_app1] at this
    exact this
end Go.Proofs.YtjnpcmfpiejmjaaGreatDoor

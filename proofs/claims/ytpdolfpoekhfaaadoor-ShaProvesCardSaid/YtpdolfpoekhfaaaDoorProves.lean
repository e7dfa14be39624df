/- ShaProves: the walk. -/
import Derived.Test.YtpdolfpoekhfaaaDoorDepth
import Derived.BigFrame
namespace Go.Proofs.YtpdolfpoekhfaaaDoor
open Go.RowKit
theorem eqB_bytes {f g : Nat → Int} (h : eqB f g = true) : bytesOf f = bytesOf g := by
  refine List.map_congr_left fun i hi => ?_
  have := List.all_eq_true.1 h i hi
  simpa using this
theorem bytes_eqB {f g : Nat → Int} (h : bytesOf f = bytesOf g) : eqB f g = true := by
  refine List.all_eq_true.2 fun i hi => ?_
  have h1 : (bytesOf f)[i]? = (bytesOf g)[i]? := by rw [h]
  have hi' : i < 32 := List.mem_range.1 hi
  simpa [bytesOf, hi'] using h1
theorem foldT_congr : ∀ (l : List (Bool × (Nat → Int))) {f g : Nat → Int}, bytesOf f = bytesOf g → bytesOf (foldT f l) = bytesOf (foldT g l)
  | [], _, _, h => h
  | x :: l, f, g, h => by
    show bytesOf (foldT (foldStep f x) l) = bytesOf (foldT (foldStep g x) l)
    refine foldT_congr l ?_
    unfold foldStep nodeF
    rw [h]
theorem wpList_load_want {P : Program} {ops : Array Oper} {rest : List Oper} {op : Oper} {a : Act} {w : World} {Q : Exit → Act → World → Prop} (hw : Region.wanted op (yielded ops a.tmps) = true) (ty : TypeId) (x : Operand) (ho : op.op = .load ty x)
    (b o : Nat) (hx : a.eval x = .pointer (some ⟨b, o, none⟩)) (cs : List Value) (d : TypeDesc) (hc : w.rangeAt b o cs)
    (hu : P.underlying ty = some d) (hd : d.isRow = true) (hi : (P.info? ty).map (·.size) = some cs.length)
    (h : wpList P ops Q rest (a.put op.dst (.agg cs.toArray)) w) : wpList P ops Q (op :: rest) a w :=
  BigFrame.wpList_want hw fun _ hK => wp_load_mid ty x ho b o hx cs d hc hu hd hi (hK _ _ h)
structure ProvM (w w' : World) (v : Value) (hs : List (Nat → Int)) : Prop where
  below : Below w.heap.size w w'
  env : Env w'
  hx : HashesIn w' v hs
def provS (ab o1 o2 g2 g0 : Nat) (la lb y r : Nat → Int) (w : World) : Prop :=
  w.rangeAt ab o1 (rowOf .u8 32 la).toList ∧ w.rangeAt ab o2 (rowOf .u8 32 lb).toList ∧ w.rangeAt g2 0 (rowOf .u8 32 y).toList ∧ w.rangeAt g0 0 (rowOf .u8 32 r).toList
theorem ProvM.calls {w w' w2 : World} {v : Value} {hs : List (Nat → Int)} (m : ProvM w w' v hs) (hb : Below w'.heap.size w' w2) : ProvM w w2 v hs :=
  ⟨m.below.trans (hb.mono m.below.size), m.env.below hb m.env.lt, m.hx.below hb⟩
theorem idx_rem (i : Int) (n : Nat) (h0 : 1 ≤ n) (hn : n ≤ 200) : ∃ p : Nat, wrap64 ((IntKind.u64.wrap i).tmod (n : Int)) = p ∧ p < n := by
  have h1 : 0 ≤ IntKind.u64.wrap i := by rw [IntKind.wrap_u64]; omega
  have h2 : 0 ≤ (IntKind.u64.wrap i) % (n : Int) := Int.emod_nonneg _ (by omega)
  have h3 : (IntKind.u64.wrap i) % (n : Int) < (n : Int) := Int.emod_lt_of_pos _ (by omega)
  refine ⟨((IntKind.u64.wrap i) % (n : Int)).toNat, ?_, by omega⟩
  rw [Int.tmod_eq_emod_of_nonneg h1, IntWalk.wrap64_in _ ⟨by omega, by omega⟩]
  omega
set_option maxRecDepth 100000 in
set_option maxHeartbeats 400000 in
theorem proves_out (a : Option Addr) (n cap : Nat) (i k : Int) (w : World) (hn : n = 0 ∨ 200 < n) (he : Env w) :
    Calls Tryd.prog 5 #[.slice a n cap, .int .i64 i, .int .i64 k] w fun e w' => e = .returned (.bool true) ∧ Below w.heap.size w w' := by
  have HE := Lib.hid he
  clear he
  have HN : ∀ w', HashesIn w' (.slice none 0 0) [] := fun w' => ⟨none, 0, rfl, by simp, by simp [maxLen], .inl rfl⟩
  have HB : ∀ w', BytesIn w' (.slice none 0 0) [] := fun w' => ⟨none, 0, rfl, by simp, by simp [maxLen], .inl rfl⟩
  replace HN := Lib.hid HN
  replace HB := Lib.hid HB
  have heq := eq32 (sumF []) (sumF [])
  rw [eqB_self] at heq
  go_enter Tryd.func5, Tryd.ntmps5
  rcases hn with rfl | hn
  · go_wp2_with (first
      | (go_at_call 29; (with_reducible refine (root_any 0 [] rfl _ _ (HN.out _) HE.out).mono ?_); rintro e w1 ⟨rfl, HB1⟩; rw [rootF_nil]; replace HE := Lib.hid (HE.out.below HB1 HE.out.lt); replace HB1 := Lib.hid HB1)
      | (go_at_call 16; (with_reducible refine (sum_any _ [] _ (HB.out _) HE.out).mono ?_); rintro e w2 ⟨rfl, HB2⟩; replace HE := Lib.hid (HE.out.below HB2 HE.out.lt); replace HB2 := Lib.hid HB2)
      | (go_at_call 20; (with_reducible refine (sure_any _ HE.out).mono ?_); rintro e w3 ⟨rfl, HB3⟩))
    go_ret
    exact ⟨rfl, HB1.out.trans ((HB2.out.trans (HB3.mono HB2.out.size)).mono HB1.out.size)⟩
  · have hc1 : ((n : Int) == 0) = false := by simp; omega
    have hc2 : decide (200 < (n : Int)) = true := by simp; omega
    go_wp2_with (first
      | (go_at_call 29; (with_reducible refine (root_any 0 [] rfl _ _ (HN.out _) HE.out).mono ?_); rintro e w1 ⟨rfl, HB1⟩; rw [rootF_nil]; replace HE := Lib.hid (HE.out.below HB1 HE.out.lt); replace HB1 := Lib.hid HB1)
      | (go_at_call 16; (with_reducible refine (sum_any _ [] _ (HB.out _) HE.out).mono ?_); rintro e w2 ⟨rfl, HB2⟩; replace HE := Lib.hid (HE.out.below HB2 HE.out.lt); replace HB2 := Lib.hid HB2)
      | (go_at_call 20; (with_reducible refine (sure_any _ HE.out).mono ?_); rintro e w3 ⟨rfl, HB3⟩))
    go_ret
    exact ⟨rfl, HB1.out.trans ((HB2.out.trans (HB3.mono HB2.out.size)).mono HB1.out.size)⟩
set_option maxRecDepth 100000 in
set_option maxHeartbeats 4000000 in
theorem proves_in (a : Option Addr) (n cap : Nat) (hs : List (Nat → Int)) (i k : Int) (w : World) (h1 : 1 ≤ n) (hn : n ≤ 200) (hx : HashesIn w (.slice a n cap) hs) (hl : n = hs.length) (he : Env w) :
    Calls Tryd.prog 5 #[.slice a n cap, .int .i64 i, .int .i64 k] w fun e w' => e = .returned (.bool true) ∧ Below w.heap.size w w' := by
  have HE := Lib.hid he
  have HX := Lib.hid hx
  have HL := Lib.hid hl
  clear he hx hl
  obtain ⟨p, hpi, hpn⟩ := idx_rem i n h1 hn
  obtain ⟨q, hqi, hqn⟩ := idx_rem k n h1 hn
  have hc1 : ((n : Int) == 0) = false := by simp; omega
  have hc2 : decide (200 < (n : Int)) = false := by simp; omega
  go_enter Tryd.func5, Tryd.ntmps5
  go_upto_region 3 with (fail)
  go_quiet (fail)
  replace HX : Hid (HashesIn (w.drewN nq) (.slice a n cap) hs) := HX
  replace HE : Hid (Env (w.drewN nq)) := Lib.hid ⟨HE.out.begin, HE.out.consts⟩
  obtain ⟨wd, hwd⟩ : ∃ wd, wd = w.drewN nq := ⟨_, rfl⟩
  rw [← hwd] at HX HE ⊢
  have HBD := Lib.hid (show Below w.heap.size w wd from by subst hwd; exact ⟨rfl, rfl, rfl, Nat.le_refl _, fun _ _ => rfl⟩)
  simp only [hpi, hqi]
  clear hwd hpi hqi hc1 hc2
  go_upto_region 5 with (first
    | (go_at_call 29; (with_reducible refine (root_any _ hs rfl _ _ HX.out HE.out).mono ?_); rintro e w1 ⟨rfl, HB1⟩; replace HB1 := Lib.hid HB1)
    | (refine wpList_store_row rfl 25 (.tmp 9) (.tmp 45) rfl w1.heap.size _ rfl rfl 25 _ (heap_alloc_new _ _) (by rw [rowOf_size]; kernel_rfl) (by rw [rowOf_size]; rfl) (rowOf_one _ _ _) ?_; rw [World.setRow_alloc_new]; simp only [Act.put]))
  have HB2 := HB1.out.trans ((below_alloc w1 (.cells (rowOf .u8 32 (rootF hs)) 25)).mono HB1.out.size)
  have M := Lib.hid (show ProvM wd (w1.alloc (.cells (rowOf .u8 32 (rootF hs)) 25)) (.slice a n cap) hs from ⟨HB2, HE.out.below HB2 HE.out.lt, HX.out.below HB2⟩)
  have R0 := Lib.hid (RowAt.new w1 .u8 32 25 (rootF hs))
  generalize w1.alloc (.cells (rowOf .u8 32 (rootF hs)) 25) = w2 at *
  obtain ⟨g0, hg0⟩ : ∃ g, g = w1.heap.size := ⟨_, rfl⟩
  rw [← hg0] at R0 ⊢
  clear hg0 HB1 HB2 HX HE
  obtain ⟨ps, hps⟩ : ∃ ps, ps = pathF hs p := ⟨_, rfl⟩
  replace hps := Lib.hid hps
  have HI := Lib.hid (show p < hs.length from by rw [← HL.out]; exact hpn)
  go_upto_region 6 with (go_at_call 21; (with_reducible refine (path_any hs p HI.out _ _ M.out.hx M.out.env).mono ?_); rintro e w3 ⟨r, rfl, HO, HB3⟩; rw [← hps.out] at HO; replace HO := Lib.hid HO; replace HB3 := Lib.hid HB3)
  have HR := Lib.hid (HashesIn.of_own HO.out)
  obtain ⟨ra, rcap, hr⟩ := HR.out.len
  obtain ⟨pl, hpl⟩ : ∃ pl, pl = ps.length := ⟨_, rfl⟩
  rw [← hpl] at hr
  subst hr
  have HPL := Lib.hid hpl
  clear hpl
  replace M := Lib.hid (M.out.calls HB3.out)
  replace R0 := Lib.hid (R0.out.below HB3.out R0.out.lt)
  clear HO HB3
  obtain ⟨la, hla⟩ : ∃ la, la = hs.getD p zeroH := ⟨_, rfl⟩
  obtain ⟨lb, hlb⟩ : ∃ lb, lb = hs.getD q zeroH := ⟨_, rfl⟩
  replace hla := Lib.hid hla
  replace hlb := Lib.hid hlb
  obtain ⟨y, hy⟩ : ∃ y, y = foldT lb ((turnsF p n).reverse.zip ps) := ⟨_, rfl⟩
  have hy2 := hy
  replace hy := Lib.hid hy
  have hyr : eqB la lb = true → eqB y (rootF hs) = true := fun h => by
    have e : foldT (hs.getD p zeroH) ((turnsF p n).reverse.zip (pathF hs p)) = rootF hs := path_root n hs p HL.out.symm (by omega) hpn
    rw [hy2, ← e, hps.out, ← hla.out]
    exact bytes_eqB (foldT_congr _ (eqB_bytes h).symm)
  replace hyr := Lib.hid hyr
  clear hy2
  have HFA := Lib.hid (show ∀ w', HashesIn w' (.slice ra pl rcap) ps → Env w' → Calls Tryd.prog 24 #[.agg (rowOf .u8 32 la), .int .i64 (p : Int), .int .i64 (n : Int), .slice ra pl rcap] w' fun e w2 => e = .returned (.tuple #[.agg (rowOf .u8 32 (rootF hs)), .nilIface]) ∧ Below w'.heap.size w' w2 from fun w' h1 h2 => by
    rw [hps.out] at h1
    rw [hla.out]
    have := fold_any (hs.getD p zeroH) p n (.slice ra pl rcap) (pathF hs p) w' hpn (by omega) h1 (by rw [path_turns n hs p HL.out.symm (by omega) hpn]) h2
    have e : foldT (hs.getD p zeroH) ((turnsF p n).reverse.zip (pathF hs p)) = rootF hs := path_root n hs p HL.out.symm (by omega) hpn
    rw [e] at this; exact this)
  have HFB := Lib.hid (show ∀ w', HashesIn w' (.slice ra pl rcap) ps → Env w' → Calls Tryd.prog 24 #[.agg (rowOf .u8 32 lb), .int .i64 (p : Int), .int .i64 (n : Int), .slice ra pl rcap] w' fun e w2 => e = .returned (.tuple #[.agg (rowOf .u8 32 y), .nilIface]) ∧ Below w'.heap.size w' w2 from fun w' h1 h2 => by
    rw [hy.out]
    exact fold_any lb p n (.slice ra pl rcap) ps w' hpn (by omega) h1 (by rw [hps.out, path_turns n hs p HL.out.symm (by omega) hpn]) h2)
  obtain ⟨ab, ao, rfl, hA⟩ := path_cell M.out.hx p la (by rw [hla.out]; simp [List.getD, HI.out]) (Below.refl _ _)
  have hB : ∃ w', w' = w3 ∧ w'.rangeAt ab (ao + q * 32) (rowOf .u8 32 lb).toList := by
    obtain ⟨ab', ao', e, h⟩ := path_cell M.out.hx q lb (by rw [hlb.out]; have : q < hs.length := by rw [← HL.out]; exact hqn
                                                           simp [List.getD, this]) (Below.refl _ _)
    simp at e
    obtain ⟨rfl, rfl⟩ := e
    exact ⟨_, rfl, h⟩
  obtain ⟨_, rfl, hB⟩ := hB
  rename_i w3
  have hab : ab < w3.heap.size := World.block_lt_of_cell? _ _ (hA 0 (.int .u8 (la 0)) (by simp [rowOf]))
  replace hA := Lib.hid hA
  replace hB := Lib.hid hB
  go_upto_region 7 with (first
    | (refine wpList_load_mid rfl 25 (.tmp 55) rfl ab (ao + p * 32) rfl _ _ hA.out Tryd.underlying25 rfl (by rw [(rowOf_list _ _ _).2]; kernel_rfl) ?_; rw [Array.toArray_toList])
    | (go_at_call 24; (with_reducible refine (HFA.out _ HR.out M.out.env).mono ?_); rintro e w4 ⟨rfl, HB4⟩; replace HB4 := Lib.hid HB4)
    | (refine wpList_store_row rfl 25 (.tmp 12) (.tmp 62) rfl w4.heap.size _ rfl rfl 25 _ (heap_alloc_new _ _) (by rw [rowOf_size]; kernel_rfl) (by rw [rowOf_size]; rfl) (rowOf_one _ _ _) ?_; rw [World.setRow_alloc_new]; simp only [Act.put]))
  have HB5 := HB4.out.trans ((below_alloc w4 (.cells (rowOf .u8 32 (rootF hs)) 25)).mono HB4.out.size)
  replace M := Lib.hid (M.out.calls HB5)
  replace R0 := Lib.hid (R0.out.below HB5 R0.out.lt)
  replace HR := Lib.hid (HR.out.below HB5)
  replace hA := Lib.hid (rangeAt_below hA.out HB5 hab)
  replace hB := Lib.hid (rangeAt_below hB.out HB5 hab)
  have R1 := Lib.hid (RowAt.new w4 .u8 32 25 (rootF hs))
  have hab2 := Nat.lt_of_lt_of_le hab HB5.size
  generalize w4.alloc (.cells (rowOf .u8 32 (rootF hs)) 25) = w5 at *
  obtain ⟨g1, hg1⟩ : ∃ g, g = w4.heap.size := ⟨_, rfl⟩
  rw [← hg1] at R1 ⊢
  clear hg1 HB4 HB5 hab HFA
  go_upto_region 8 with (first
    | (refine wpList_load_mid rfl 25 (.tmp 67) rfl ab (ao + q * 32) rfl _ _ hB.out Tryd.underlying25 rfl (by rw [(rowOf_list _ _ _).2]; kernel_rfl) ?_; rw [Array.toArray_toList])
    | (go_at_call 24; (with_reducible refine (HFB.out _ HR.out M.out.env).mono ?_); rintro e w6 ⟨rfl, HB6⟩; replace HB6 := Lib.hid HB6)
    | (refine wpList_store_row rfl 25 (.tmp 14) (.tmp 74) rfl w6.heap.size _ rfl rfl 25 _ (heap_alloc_new _ _) (by rw [rowOf_size]; kernel_rfl) (by rw [rowOf_size]; rfl) (rowOf_one _ _ _) ?_; rw [World.setRow_alloc_new]; simp only [Act.put]))
  have HB7 := HB6.out.trans ((below_alloc w6 (.cells (rowOf .u8 32 y) 25)).mono HB6.out.size)
  replace M := Lib.hid (M.out.calls HB7)
  replace R0 := Lib.hid (R0.out.below HB7 R0.out.lt)
  replace R1 := Lib.hid (R1.out.below HB7 R1.out.lt)
  replace hA := Lib.hid (rangeAt_below hA.out HB7 hab2)
  replace hB := Lib.hid (rangeAt_below hB.out HB7 hab2)
  have R2 := Lib.hid (RowAt.new w6 .u8 32 25 y)
  have hab3 := Nat.lt_of_lt_of_le hab2 HB7.size
  generalize w6.alloc (.cells (rowOf .u8 32 y) 25) = w7 at *
  obtain ⟨g2, hg2⟩ : ∃ g, g = w6.heap.size := ⟨_, rfl⟩
  rw [← hg2] at R2 ⊢
  clear hg2 HB6 HB7 hab2 HFB HR
  have hne := neq32 (rootF hs) (rootF hs)
  rw [eqB_self] at hne
  go_upto_region 10 with (first
    | (refine wpList_load_want rfl 25 (.tmp 12) rfl g1 0 rfl _ _ R1.out.range Tryd.underlying25 rfl (by rw [(rowOf_list _ _ _).2]; kernel_rfl) ?_; rw [Array.toArray_toList])
    | (refine wpList_load_want rfl 25 (.tmp 9) rfl g0 0 rfl _ _ R0.out.range Tryd.underlying25 rfl (by rw [(rowOf_list _ _ _).2]; kernel_rfl) ?_; rw [Array.toArray_toList]))
  clear hne
  have hu25 := Tryd.underlying25
  have hia : (Tryd.prog.info? 25).map (·.size) = some (rowOf .u8 32 la).toList.length := by rw [(rowOf_list _ _ _).2]; kernel_rfl
  have hib : (Tryd.prog.info? 25).map (·.size) = some (rowOf .u8 32 lb).toList.length := by rw [(rowOf_list _ _ _).2]; kernel_rfl
  have hiy : (Tryd.prog.info? 25).map (·.size) = some (rowOf .u8 32 y).toList.length := by rw [(rowOf_list _ _ _).2]; kernel_rfl
  have hir : (Tryd.prog.info? 25).map (·.size) = some (rowOf .u8 32 (rootF hs)).toList.length := by rw [(rowOf_list _ _ _).2]; kernel_rfl
  have hnab := neq32 la lb
  have HD := Lib.hid (show ProvM wd w7.drew (.slice (some ⟨ab, ao, none⟩) n cap) hs from ⟨M.out.below.drew, ⟨M.out.env.begin, M.out.env.consts⟩, M.out.hx⟩)
  have HS := Lib.hid (show provS ab (ao + p * 32) (ao + q * 32) g2 g0 la lb y (rootF hs) w7.drew from ⟨hA.out, hB.out, R2.out.range, R0.out.range⟩)
  have HA := Lib.hid hab3
  have HG := Lib.hid (show g2 < w7.heap.size ∧ g0 < w7.heap.size from ⟨R2.out.lt, R0.out.lt⟩)
  refine wp_region_held_drew (S := provS ab (ao + p * 32) (ao + q * 32) g2 g0 la lb y (rootF hs)) (by kernel_rfl) HS.out (fun _ => ?_)
  replace HA : Hid (ab < w7.drew.heap.size) := HA
  replace HG : Hid (g2 < w7.drew.heap.size ∧ g0 < w7.drew.heap.size) := HG
  generalize w7.drew = w8 at *
  clear hA hB R0 R1 R2 M hab3
  refine wpAnyH_take (i := 0) (v := .slice (some ⟨ab, ao, none⟩) n cap) rfl (by kernel_rfl) (by kernel_rfl) (by kernel_rfl) (fun _ _ _ h => h) (Or.inl ⟨by rfl, by intro w hSw; go_simp⟩) HS.out ?_
  try simp only [List.getElem_toArray, List.getElem_cons_zero, Act.put, List.setIfInBounds_toArray, List.set_cons_zero, List.set_cons_succ]
  refine wpAnyH_take (i := 1) (v := .int .i64 (p : Int)) rfl (by kernel_rfl) (by kernel_rfl) (by kernel_rfl) (fun _ _ _ h => h) (Or.inl ⟨by rfl, by intro w hSw; go_simp⟩) HS.out ?_
  try simp only [List.getElem_toArray, List.getElem_cons_succ, List.getElem_cons_zero, Act.put, List.setIfInBounds_toArray, List.set_cons_zero, List.set_cons_succ]
  refine wpAnyH_take (i := 2) (v := .pointer (some ⟨ab, ao + p * 32, none⟩)) rfl (by kernel_rfl) (by kernel_rfl) (by kernel_rfl) (fun _ _ _ h => h) (Or.inl ⟨by rfl, by intro w hSw; go_simp⟩) HS.out ?_
  try simp only [List.getElem_toArray, List.getElem_cons_succ, List.getElem_cons_zero, Act.put, List.setIfInBounds_toArray, List.set_cons_zero, List.set_cons_succ]
  refine wpAnyH_take (i := 3) (v := .agg (rowOf .u8 32 la).toList.toArray) rfl (by kernel_rfl) (by kernel_rfl) (by kernel_rfl) (fun _ _ _ h => h) (yieldsIf_load_mid (by rfl) 25 (.tmp 93) rfl ab (ao + p * 32) rfl _ _ (fun _ h => h.1) hu25 rfl hia) HS.out ?_
  try simp only [List.getElem_toArray, List.getElem_cons_succ, List.getElem_cons_zero, Array.toArray_toList, Act.put, List.setIfInBounds_toArray, List.set_cons_zero, List.set_cons_succ]
  refine wpAnyH_take (i := 4) (v := .slice (some ⟨ab, ao, none⟩) n cap) rfl (by kernel_rfl) (by kernel_rfl) (by kernel_rfl) (fun _ _ _ h => h) (Or.inl ⟨by rfl, by intro w hSw; go_simp⟩) HS.out ?_
  try simp only [List.getElem_toArray, List.getElem_cons_succ, List.getElem_cons_zero, Act.put, List.setIfInBounds_toArray, List.set_cons_zero, List.set_cons_succ]
  refine wpAnyH_take (i := 5) (v := .int .i64 (q : Int)) rfl (by kernel_rfl) (by kernel_rfl) (by kernel_rfl) (fun _ _ _ h => h) (Or.inl ⟨by rfl, by intro w hSw; go_simp⟩) HS.out ?_
  try simp only [List.getElem_toArray, List.getElem_cons_succ, List.getElem_cons_zero, Act.put, List.setIfInBounds_toArray, List.set_cons_zero, List.set_cons_succ]
  refine wpAnyH_take (i := 6) (v := .pointer (some ⟨ab, ao + q * 32, none⟩)) rfl (by kernel_rfl) (by kernel_rfl) (by kernel_rfl) (fun _ _ _ h => h) (Or.inl ⟨by rfl, by intro w hSw; go_simp⟩) HS.out ?_
  try simp only [List.getElem_toArray, List.getElem_cons_succ, List.getElem_cons_zero, Act.put, List.setIfInBounds_toArray, List.set_cons_zero, List.set_cons_succ]
  refine wpAnyH_take (i := 7) (v := .agg (rowOf .u8 32 lb).toList.toArray) rfl (by kernel_rfl) (by kernel_rfl) (by kernel_rfl) (fun _ _ _ h => h) (yieldsIf_load_mid (by rfl) 25 (.tmp 97) rfl ab (ao + q * 32) rfl _ _ (fun _ h => h.2.1) hu25 rfl hib) HS.out ?_
  try simp only [List.getElem_toArray, List.getElem_cons_succ, List.getElem_cons_zero, Array.toArray_toList, Act.put, List.setIfInBounds_toArray, List.set_cons_zero, List.set_cons_succ]
  cases hab : eqB la lb with
  | false =>
    rw [hab] at hnab
    refine wpAnyH_take (i := 8) (v := .bool true) rfl (by kernel_rfl) (by kernel_rfl) (by kernel_rfl) (fun _ _ _ h => h) (Or.inl ⟨by rfl, by intro w hSw; go_simp⟩) HS.out ?_
    try simp only [List.getElem_toArray, List.getElem_cons_succ, List.getElem_cons_zero, Act.put, List.setIfInBounds_toArray, List.set_cons_zero, List.set_cons_succ]
    refine wpAnyH_take (i := 9) (v := .bool true) rfl (by kernel_rfl) (by kernel_rfl) (by kernel_rfl) (fun _ _ _ h => h) (Or.inl ⟨by rfl, by intro w hSw; go_simp⟩) HS.out ?_
    try simp only [List.getElem_toArray, List.getElem_cons_succ, List.getElem_cons_zero, Act.put, List.setIfInBounds_toArray, List.set_cons_zero, List.set_cons_succ]
    refine wpAnyH_take (i := 10) (v := undef) rfl (by kernel_rfl) (by kernel_rfl) (by kernel_rfl) (fun _ _ _ h => h) (Or.inr ⟨by rfl, rfl⟩) HS.out ?_
    try simp only [List.getElem_toArray, List.getElem_cons_succ, List.getElem_cons_zero, Act.put, List.setIfInBounds_toArray, List.set_cons_zero, List.set_cons_succ]
    refine wpAnyH_take (i := 11) (v := undef) rfl (by kernel_rfl) (by kernel_rfl) (by kernel_rfl) (fun _ _ _ h => h) (Or.inr ⟨by rfl, rfl⟩) HS.out ?_
    try simp only [List.getElem_toArray, List.getElem_cons_succ, List.getElem_cons_zero, Act.put, List.setIfInBounds_toArray, List.set_cons_zero, List.set_cons_succ]
    refine wpAnyH_take (i := 12) (v := undef) rfl (by kernel_rfl) (by kernel_rfl) (by kernel_rfl) (fun _ _ _ h => h) (Or.inr ⟨by rfl, rfl⟩) HS.out ?_
    try simp only [List.getElem_toArray, List.getElem_cons_succ, List.getElem_cons_zero, Act.put, List.setIfInBounds_toArray, List.set_cons_zero, List.set_cons_succ]
    refine wpAnyH_take (i := 13) (v := .bool true) rfl (by kernel_rfl) (by kernel_rfl) (by kernel_rfl) (fun _ _ _ h => h) (Or.inl ⟨by rfl, by intro w hSw; go_simp⟩) HS.out ?_
    try simp only [List.getElem_toArray, List.getElem_cons_succ, List.getElem_cons_zero, Act.put, List.setIfInBounds_toArray, List.set_cons_zero, List.set_cons_succ]
    refine wpAnyH_take (i := 14) (v := .bool true) rfl (by kernel_rfl) (by kernel_rfl) (by kernel_rfl) (fun _ _ _ h => h) (Or.inl ⟨by rfl, by intro w hSw; go_simp⟩) HS.out ?_
    try simp only [List.getElem_toArray, List.getElem_cons_succ, List.getElem_cons_zero, Act.put, List.setIfInBounds_toArray, List.set_cons_zero, List.set_cons_succ]
    refine wpAnyH_ready (rs := [15]) (by kernel_rfl) (by simp) ?_; refine AllReadyH.cons rfl (fun K hK => ?_) AllReadyH.nil; rw [if_pos (by rfl)]
    try simp only [List.getElem_toArray, List.getElem_cons_succ, List.getElem_cons_zero]
    go_simp
    refine (sure_any _ HD.out.env).mono ?_
    rintro e w9 ⟨rfl, HB9⟩
    refine hK.out _ _ ⟨rangeAt_below HS.out.1 HB9 HA.out, rangeAt_below HS.out.2.1 HB9 HA.out, rangeAt_below HS.out.2.2.1 HB9 HG.out.1, rangeAt_below HS.out.2.2.2 HB9 HG.out.2⟩ (fun hS9 => ?_)
    clear hK K HS
    have HS := Lib.hid hS9
    refine wpAnyH_take (i := 16) (v := .bool true) rfl (by kernel_rfl) (by kernel_rfl) (by kernel_rfl) (fun _ _ _ h => h) (Or.inl ⟨by rfl, by intro w hSw; go_simp⟩) HS.out ?_
    try simp only [List.getElem_toArray, List.getElem_cons_succ, List.getElem_cons_zero, Act.put, List.setIfInBounds_toArray, List.set_cons_zero, List.set_cons_succ]
    refine wpAnyH_take (i := 17) (v := .bool true) rfl (by kernel_rfl) (by kernel_rfl) (by kernel_rfl) (fun _ _ _ h => h) (Or.inl ⟨by rfl, by intro w hSw; go_simp⟩) HS.out ?_
    try simp only [List.getElem_toArray, List.getElem_cons_succ, List.getElem_cons_zero, Act.put, List.setIfInBounds_toArray, List.set_cons_zero, List.set_cons_succ]
    refine wpAnyH_done (by kernel_rfl) ?_ _
    go_wp2_with (fail)
    go_ret
    exact ⟨rfl, HBD.out.trans ((HD.out.below.trans (HB9.mono HD.out.below.size)).mono HBD.out.size)⟩
  | true =>
    rw [hab] at hnab
    have hey := eq32 y (rootF hs)
    rw [hyr.out hab] at hey
    refine wpAnyH_take (i := 8) (v := .bool false) rfl (by kernel_rfl) (by kernel_rfl) (by kernel_rfl) (fun _ _ _ h => h) (Or.inl ⟨by rfl, by intro w hSw; go_simp⟩) HS.out ?_
    try simp only [List.getElem_toArray, List.getElem_cons_succ, List.getElem_cons_zero, Act.put, List.setIfInBounds_toArray, List.set_cons_zero, List.set_cons_succ]
    refine wpAnyH_take (i := 9) (v := .bool false) rfl (by kernel_rfl) (by kernel_rfl) (by kernel_rfl) (fun _ _ _ h => h) (Or.inl ⟨by rfl, by intro w hSw; go_simp⟩) HS.out ?_
    try simp only [List.getElem_toArray, List.getElem_cons_succ, List.getElem_cons_zero, Act.put, List.setIfInBounds_toArray, List.set_cons_zero, List.set_cons_succ]
    refine wpAnyH_take (i := 10) (v := .agg (rowOf .u8 32 y).toList.toArray) rfl (by kernel_rfl) (by kernel_rfl) (by kernel_rfl) (fun _ _ _ h => h) (yieldsIf_load_mid (by rfl) 25 (.tmp 14) rfl g2 0 rfl _ _ (fun _ h => h.2.2.1) hu25 rfl hiy) HS.out ?_
    try simp only [List.getElem_toArray, List.getElem_cons_succ, List.getElem_cons_zero, Array.toArray_toList, Act.put, List.setIfInBounds_toArray, List.set_cons_zero, List.set_cons_succ]
    refine wpAnyH_take (i := 11) (v := .agg (rowOf .u8 32 (rootF hs)).toList.toArray) rfl (by kernel_rfl) (by kernel_rfl) (by kernel_rfl) (fun _ _ _ h => h) (yieldsIf_load_mid (by rfl) 25 (.tmp 9) rfl g0 0 rfl _ _ (fun _ h => h.2.2.2) hu25 rfl hir) HS.out ?_
    try simp only [List.getElem_toArray, List.getElem_cons_succ, List.getElem_cons_zero, Array.toArray_toList, Act.put, List.setIfInBounds_toArray, List.set_cons_zero, List.set_cons_succ]
    refine wpAnyH_take (i := 12) (v := .bool true) rfl (by kernel_rfl) (by kernel_rfl) (by kernel_rfl) (fun _ _ _ h => h) (Or.inl ⟨by rfl, by intro w hSw; go_simp⟩) HS.out ?_
    try simp only [List.getElem_toArray, List.getElem_cons_succ, List.getElem_cons_zero, Act.put, List.setIfInBounds_toArray, List.set_cons_zero, List.set_cons_succ]
    refine wpAnyH_take (i := 13) (v := .bool true) rfl (by kernel_rfl) (by kernel_rfl) (by kernel_rfl) (fun _ _ _ h => h) (Or.inl ⟨by rfl, by intro w hSw; go_simp⟩) HS.out ?_
    try simp only [List.getElem_toArray, List.getElem_cons_succ, List.getElem_cons_zero, Act.put, List.setIfInBounds_toArray, List.set_cons_zero, List.set_cons_succ]
    refine wpAnyH_take (i := 14) (v := .bool true) rfl (by kernel_rfl) (by kernel_rfl) (by kernel_rfl) (fun _ _ _ h => h) (Or.inl ⟨by rfl, by intro w hSw; go_simp⟩) HS.out ?_
    try simp only [List.getElem_toArray, List.getElem_cons_succ, List.getElem_cons_zero, Act.put, List.setIfInBounds_toArray, List.set_cons_zero, List.set_cons_succ]
    refine wpAnyH_ready (rs := [15]) (by kernel_rfl) (by simp) ?_; refine AllReadyH.cons rfl (fun K hK => ?_) AllReadyH.nil; rw [if_pos (by rfl)]
    try simp only [List.getElem_toArray, List.getElem_cons_succ, List.getElem_cons_zero]
    go_simp
    refine (sure_any _ HD.out.env).mono ?_
    rintro e w9 ⟨rfl, HB9⟩
    refine hK.out _ _ ⟨rangeAt_below HS.out.1 HB9 HA.out, rangeAt_below HS.out.2.1 HB9 HA.out, rangeAt_below HS.out.2.2.1 HB9 HG.out.1, rangeAt_below HS.out.2.2.2 HB9 HG.out.2⟩ (fun hS9 => ?_)
    clear hK K HS
    have HS := Lib.hid hS9
    refine wpAnyH_take (i := 16) (v := .bool true) rfl (by kernel_rfl) (by kernel_rfl) (by kernel_rfl) (fun _ _ _ h => h) (Or.inl ⟨by rfl, by intro w hSw; go_simp⟩) HS.out ?_
    try simp only [List.getElem_toArray, List.getElem_cons_succ, List.getElem_cons_zero, Act.put, List.setIfInBounds_toArray, List.set_cons_zero, List.set_cons_succ]
    refine wpAnyH_take (i := 17) (v := .bool true) rfl (by kernel_rfl) (by kernel_rfl) (by kernel_rfl) (fun _ _ _ h => h) (Or.inl ⟨by rfl, by intro w hSw; go_simp⟩) HS.out ?_
    try simp only [List.getElem_toArray, List.getElem_cons_succ, List.getElem_cons_zero, Act.put, List.setIfInBounds_toArray, List.set_cons_zero, List.set_cons_succ]
    refine wpAnyH_done (by kernel_rfl) ?_ _
    go_wp2_with (fail)
    go_ret
    exact ⟨rfl, HBD.out.trans ((HD.out.below.trans (HB9.mono HD.out.below.size)).mono HBD.out.size)⟩
theorem proves_any (a : Option Addr) (n cap : Nat) (hs : List (Nat → Int)) (i k : Int) (w : World) (hx : HashesIn w (.slice a n cap) hs) (hl : n = hs.length) (he : Env w) :
    Calls Tryd.prog 5 #[.slice a n cap, .int .i64 i, .int .i64 k] w fun e w' => e = .returned (.bool true) ∧ Below w.heap.size w w' := by
  by_cases h : n = 0 ∨ 200 < n
  · exact proves_out a n cap i k w h he
  · exact proves_in a n cap hs i k w (by omega) (by omega) hx hl he
end Go.Proofs.YtpdolfpoekhfaaaDoor

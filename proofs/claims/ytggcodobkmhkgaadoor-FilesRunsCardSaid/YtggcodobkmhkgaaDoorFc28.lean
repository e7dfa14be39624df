/- Part 28 of the proof. -/
import Derived.Test.YtggcodobkmhkgaaDoorFc27
namespace Go.Proofs.YtggcodobkmhkgaaDoor
set_option linter.unusedVariables false
set_option linter.unusedSimpArgs false
open Go.RowKit Go.Maps Go.Proofs
set_option maxRecDepth 100000
/-- the first bytes -/
def firstB (s : ByteArray) (n : Nat) : ByteArray := s.extract 0 n
theorem cat_zero (a b : ByteArray) : a ++ firstB b 0 = a := by
  apply ByteArray.ext
  simp [firstB]
theorem firstB_list (s : ByteArray) (n : Nat) : (firstB s n).data.toList = s.data.toList.take n := by
  unfold firstB
  rw [ByteArray.data_extract, Array.toList_extract]
  simp [List.extract]
theorem cat_list (a b : ByteArray) : (a ++ b).data.toList = a.data.toList ++ b.data.toList := by
  rw [ByteArray.data_append, Array.toList_append]
def keptB (s : ByteArray) (k : Int) : Nat := (max (min k s.size) 0).toNat
def stF4 (f : RF) (n : Nat) : RF := ⟨f.nm, f.sf ++ firstB f.ls n, ⟨#[]⟩⟩
def startN : List RF → List Int → List RF
  | [], _ => []
  | f :: r, ks => if f.ls.size = 0 then f :: startN r ks else match ks with
    | [] => stF4 f 0 :: startN r []
    | k :: t => stF4 f (keptB f.ls k) :: startN r t
theorem startN_cons (f : RF) (r : List RF) (ks : List Int) : startN (f :: r) ks = if f.ls.size = 0 then f :: startN r ks else match ks with
    | [] => stF4 f 0 :: startN r []
    | k :: t => stF4 f (keptB f.ls k) :: startN r t := by cases ks <;> rfl
def KeepAt (w : World) (v : Value) (ks : List Int) : Prop :=
  ∃ a cap, v = .slice a ks.length cap ∧ ks.length ≤ maxLen ∧ (ks = [] ∨ ∃ ab ao, a = some ⟨ab, ao, none⟩ ∧ ab < w.heap.size ∧ ∀ i k, ks[i]? = some k → w.cell? ⟨ab, ao + i, none⟩ = some (.int .i64 k))
def S4Rel (B : Nat) (W0 : World) (L : List RF) (ks : List Int) (l kv i : Value) (w : World) : Prop :=
  ∃ (done : List RF) (k : Nat), i = .int .i64 (done.length : Int) ∧ kv = .int .i64 (k : Int) ∧ k ≤ done.length ∧ done.length ≤ L.length ∧ startN L ks = done ++ startN (L.drop done.length) (ks.drop k) ∧ w.ownsRow B 111 3 l done.length (filesL done) ∧ Below B W0 w ∧ B ≤ w.heap.size
theorem S4Rel.next {B : Nat} {W0 w' : World} {L : List RF} {ks : List Int} {done : List RF} {k k' : Nat} {f f' : RF} {l kv i : Value} (heq : startN L ks = done ++ startN (L.drop done.length) (ks.drop k)) (hdr : L.drop done.length = f :: L.drop (done.length + 1)) (hlt : done.length < L.length)
    (hst : startN (f :: L.drop (done.length + 1)) (ks.drop k) = f' :: startN (L.drop (done.length + 1)) (ks.drop k')) (hi : i = .int .i64 ((done.length : Int) + 1)) (hkv : kv = .int .i64 (k' : Int)) (hk : k' ≤ done.length + 1) (ho : w'.ownsRow B 111 3 l (done ++ [f']).length (filesL (done ++ [f']))) (hb : Below B W0 w') (hs : B ≤ w'.heap.size) : S4Rel B W0 L ks l kv i w' := by
  refine ⟨done ++ [f'], k', by rw [hi]; simp, hkv, by simpa using hk, by simp; omega, ?_, ho, hb, hs⟩
  rw [heq, hdr, hst]
  simp
theorem one_file' (w : World) (n : Nat) (hn : n = w.heap.size) (f : RF) : FilesAt (w.alloc (.cells #[.string f.nm, .string f.sf, .string f.ls] 111)) (.slice (some ⟨n, 0, none⟩) 1 1) [f] := by subst hn; exact one_file w f
theorem toList_ne {s : ByteArray} (h : ¬ s.size = 0) : s.toList.isEmpty = false := by
  rw [Lib.toList_data]
  cases hl : s.data.toList with
  | nil => exact absurd (by show s.data.toList.length = 0; rw [hl]; rfl) h
  | cons => rfl
set_option maxHeartbeats 8000000 in
theorem start4_any (lv : Value) (r : RSt) (kv : Value) (ks : List Int) (w : World) (hL : FilesIn w lv r.L) (hk : KeepAt w kv ks) (hz : ∀ f ∈ r.L, f.sf.size ≤ 16777216 ∧ f.ls.size ≤ 16777216) :
    Calls Tryd.prog 45 #[rsV lv r, kv] w fun e w' => ∃ lv', e = .returned (rsV lv' ⟨startN r.L ks, r.steps, false, 0, false⟩) ∧ FilesIn w' lv' (startN r.L ks) ∧ Below w.heap.size w w' := by
  obtain ⟨L, st, ar, lf, dn⟩ := r
  simp only at hL hz ⊢
  obtain ⟨a, cap, rfl, hc, hm, hx⟩ := hL.lies
  obtain ⟨ka, kc, rfl, hkm, hkx⟩ := hk
  have HL := Lib.hid hL
  have HX := Lib.hid hx
  have HKX := Lib.hid hkx
  have HZ := Lib.hid hz
  have hlen : (L.length : Int) ≤ 1000 := by have := hL.2; omega
  have hkl : (ks.length : Int) ≤ 9223372036854775807 := by unfold maxLen at hkm; omega
  unfold rsV rsC at *
  clear hL hx hkx hz hc hm hkm
  go_enter Tryd.func45, Tryd.ntmps45
  go_wp2_with (fail)
  obtain ⟨W0, hW0⟩ : ∃ W0, W0 = (w.alloc (.cells #[.slice a L.length cap, .int .i64 st, .bool ar, .int .i64 lf, .bool dn] 27)).alloc (.cells #[.slice none 0 0, .int .i64 0, .bool false, .int .i64 0, .bool false] 27) := ⟨_, rfl⟩
  rw [← hW0]
  obtain ⟨hp, hq, hsz, hb⟩ := far2 (show Below ((w.alloc (.cells #[.slice a L.length cap, .int .i64 st, .bool ar, .int .i64 lf, .bool dn] 27)).alloc (.cells #[.slice none 0 0, .int .i64 0, .bool false, .int .i64 0, .bool false] 27)).heap.size _ W0 by rw [← hW0]; exact Below.refl _ _)
  have HP := Lib.hid hp
  have HQ := Lib.hid hq
  have HB := Lib.hid hb
  clear hW0 hp hq hb
  go_loopw [5, 6, 7] (fun l kv i wr => S4Rel W0.heap.size W0 L ks l kv i wr) (fun _ _ i _ => L.length - (intOf i).toNat)
  case atStart => exact ⟨[], 0, rfl, rfl, Nat.le_refl _, Nat.zero_le _, rfl, World.ownsRow_nil _ _ _ _, Below.refl _ _, Nat.le_refl _⟩
  case round =>
    obtain ⟨done, k, rfl, rfl, hkd, hdl, heq, hown, hbr, hbs⟩ := hrel
    obtain ⟨al, nl, cl, hvl⟩ := ownsF_wide hown
    subst hvl
    have HEQ := Lib.hid heq
    have HOWN := Lib.hid hown
    have HBR := Lib.hid hbr
    obtain ⟨p0, p1, -⟩ := rs_cells ((hbr.block w.heap.size (by omega)).trans HP.out)
    clear heq hown hbr
    by_cases hlt : done.length < L.length
    · obtain ⟨f, hf⟩ : ∃ f, L[done.length]? = some f := ⟨_, List.getElem?_eq_getElem hlt⟩
      have hzf := HZ.out f (List.mem_of_getElem? hf)
      rcases HX.out with ⟨h, _⟩ | ⟨g, rfl, hg, hcl⟩
      · exact absurd (by rw [h]; rfl : L.length = 0) (by omega)
      have HG := Lib.hid (show wr.rangeAt g (done.length * 3) f.cells from fun i v hv => ((HB.out.trans (HBR.out.mono (by omega))).cell (p := ⟨g, done.length * 3 + i, none⟩) hg).trans (hcl done.length f hf i v hv))
      have hdrop : L.drop done.length = f :: L.drop (done.length + 1) := by
        rw [List.drop_eq_getElem_cons hlt]
        congr 1
        rw [List.getElem?_eq_getElem hlt] at hf
        injection hf
      have HDR := Lib.hid hdrop
      have HF := Lib.hid hf
      obtain ⟨fn, fs, fl⟩ := f
      simp only at hzf
      replace HG := Lib.hid (show wr.rangeAt g (done.length * 3) [.string fn, .string fs, .string fl] from HG.out)
      have hz1 : (fs.size : Int) ≤ 16777216 := by omega
      have hz2 : (fl.size : Int) ≤ 16777216 := by omega
      have hlti : (done.length : Int) < L.length := by omega
      clear hcl hdrop hf hzf hg
      by_cases h0 : fl.size = 0
      · obtain rfl : fl = ⟨#[]⟩ := by
          obtain ⟨d⟩ := fl
          congr 1
          exact Array.eq_empty_of_size_eq_zero h0
        go_wp2_with (first
          | (refine wpList_load_mid rfl 111 (.tmp 20) rfl g (done.length * 3) rfl _ _ HG.out Tryd.underlying111 rfl (by kernel_rfl) ?_)
          | (at_builtin; refine wpList_append_files rfl (.tmp 50) (.tmp 52) rfl rfl W0.heap.size (.slice al nl cl) _ done [(⟨fn, fs, ⟨#[]⟩⟩ : RF)] rfl ((HOWN.out.alloc _).alloc _) rfl (one_file' _ _ (by simp) (⟨fn, fs, ⟨#[]⟩⟩ : RF)) (by simp; omega) (by simp; omega) ?_; intro v2 w5 ho5 hg5 _; have HO5 := Lib.hid ho5; have HB5 := Lib.hid (((HBR.out.alloc hbs _).alloc (by simp; omega) _).grown hg5 (by simp; omega) (fun j hj => (HOWN.out.lt j hj).1)); have hs5 : W0.heap.size ≤ w5.heap.size := Nat.le_trans (by simp; omega) hg5.size; clear ho5 hg5))
        go_roundw
        case rel => exact S4Rel.next HEQ.out HDR.out hlt (by rw [startN_cons]; exact if_pos rfl) rfl rfl (by omega) HO5.out HB5.out hs5
        case measure => simp [intOf]; omega
      · have hne := toList_ne h0
        by_cases hkk : k < ks.length
        · have hki : (k : Int) < ks.length := by omega
          obtain ⟨kv0, hkv0⟩ : ∃ kv0, ks[k]? = some kv0 := ⟨_, List.getElem?_eq_getElem hkk⟩
          obtain ⟨ab, ao, rfl, habl, habc⟩ : ∃ ab ao, ka = some ⟨ab, ao, none⟩ ∧ ab < w.heap.size ∧ w.cell? ⟨ab, ao + k, none⟩ = some (.int .i64 kv0) := by
            rcases HKX.out with h | ⟨ab, ao, h1, h2, h3⟩
            · rw [h] at hkk; simp at hkk
            · exact ⟨ab, ao, h1, h2, h3 k kv0 hkv0⟩
          have hcell : (wr.alloc (.cells #[.string fn, .string fs, .string fl] 111)).cell? ⟨ab, ao + k, none⟩ = some (.int .i64 kv0) := (((HB.out.trans (HBR.out.mono (by omega))).alloc (by have := HB.out.size; omega) _).cell (p := ⟨ab, ao + k, none⟩) habl).trans habc
          obtain ⟨n, hn⟩ : ∃ n, n = keptB fl kv0 := ⟨_, rfl⟩
          have hnI : max (min kv0 (fl.size : Int)) 0 = (n : Int) := by rw [hn]; unfold keptB; omega
          have hnl : n ≤ fl.size := by rw [hn]; unfold keptB; omega
          have HN := Lib.hid hn
          have HDK : Hid (ks.drop k = kv0 :: ks.drop (k + 1)) := Lib.hid (by
            rw [List.drop_eq_getElem_cons hkk]
            rw [List.getElem?_eq_getElem hkk] at hkv0
            injection hkv0 with hkv0
            rw [hkv0])
          have hx6 := heap_alloc_new wr (.cells #[.string fn, .string fs, .string fl] 111)
          have hS0 : (wr.alloc (.cells #[.string fn, .string fs, .string fl] 111)).drew.cell? ⟨ab, ao + k, none⟩ = some (.int .i64 kv0) ∧ (wr.alloc (.cells #[.string fn, .string fs, .string fl] 111)).drew.cell? ⟨wr.heap.size, 2, none⟩ = some (.string fl) := ⟨hcell, (rf_fields hx6).2.2.1⟩
          have HNI := Lib.hid hnI
          have hnli : (n : Int) ≤ fl.size := by omega
          have hkk0 : (0 : Int) ≤ (k : Int) := by omega
          have hcat : ¬ (9223372036854775807 : Int) < fs.size + n := by omega
          clear hn habl habc hkv0 hx6 hcell hnI
          go_upto_region 10 with (first
            | (refine wpList_load_mid rfl 111 (.tmp 20) rfl g (done.length * 3) rfl _ _ HG.out Tryd.underlying111 rfl (by kernel_rfl) ?_))
          go_region_held3 (fun w' => w'.cell? ⟨ab, ao + k, none⟩ = some (.int .i64 kv0) ∧ w'.cell? ⟨wr.heap.size, 2, none⟩ = some (.string fl))
            (first | (with_reducible exact hS0))
            (first | (refine step_min2 (by rfl) (.tmp 32) (.tmp 35) 3 rfl kv0 (fl.size : Int) rfl rfl (min kv0 (fl.size : Int)) rfl ?_) | (refine step_max2 (by rfl) (.tmp 36) (.const (.int .i64 0)) 3 rfl (min kv0 (fl.size : Int)) 0 rfl rfl (n : Int) HNI.out ?_))
          clear hS0
          go_upto_region 12 with (fail)
          go_region
          have ho7 : World.ownsRow (wr.alloc (.cells #[.string fn, .string (fs ++ fl.extract 0 n), .string ⟨#[]⟩] 111)).drew.drew W0.heap.size 111 3 (.slice al nl cl) done.length (filesL done) := HOWN.out.alloc _
          have hb7 : Below W0.heap.size W0 (wr.alloc (.cells #[.string fn, .string (fs ++ fl.extract 0 n), .string ⟨#[]⟩] 111)).drew.drew := (HBR.out.alloc hbs _).drew.drew
          have hx7 := heap_alloc_new wr (.cells #[.string fn, .string (fs ++ fl.extract 0 n), .string ⟨#[]⟩] 111)
          replace hx7 : (wr.alloc (.cells #[.string fn, .string (fs ++ fl.extract 0 n), .string ⟨#[]⟩] 111)).drew.drew.heap[wr.heap.size]? = _ := hx7
          have hs7 : W0.heap.size ≤ (wr.alloc (.cells #[.string fn, .string (fs ++ fl.extract 0 n), .string ⟨#[]⟩] 111)).drew.drew.heap.size := hb7.size
          generalize (wr.alloc (.cells #[.string fn, .string (fs ++ fl.extract 0 n), .string ⟨#[]⟩] 111)).drew.drew = w7 at *
          obtain ⟨x0, x1, x2, -, -, -⟩ := rf_fields hx7
          have HO7 := Lib.hid ho7
          have HB7 := Lib.hid hb7
          clear ho7 hb7 hx7
          go_wp2_with (first | (at_builtin; refine wpList_append_files rfl (.tmp 50) (.tmp 52) rfl rfl W0.heap.size (.slice al nl cl) _ done [(⟨fn, fs ++ fl.extract 0 n, ⟨#[]⟩⟩ : RF)] rfl (HO7.out.alloc _) rfl (one_file' _ _ (by simp) (⟨fn, fs ++ fl.extract 0 n, ⟨#[]⟩⟩ : RF)) (by simp; omega) (by simp; omega) ?_; intro v2 w5 ho5 hg5 _; have HO5 := Lib.hid ho5; have HB5 := Lib.hid ((HB7.out.alloc hs7 _).grown hg5 (by simp; omega) (fun j hj => (HO7.out.lt j hj).1)); have hs5 : W0.heap.size ≤ w5.heap.size := Nat.le_trans (by simp; omega) hg5.size; clear ho5 hg5))
          go_roundw
          case rel => exact S4Rel.next (k' := k + 1) HEQ.out HDR.out hlt (by rw [startN_cons, HDK.out]; refine (if_neg h0).trans ?_; rw [HN.out]; rfl) rfl rfl (by omega) HO5.out HB5.out hs5
          case measure => simp [intOf]; omega
        · have hki : ¬ (k : Int) < ks.length := by omega
          have hks : ks.drop k = [] := List.drop_eq_nil_of_le (by omega)
          have HKS := Lib.hid hks
          clear hks
          go_upto_region 12 with (first
            | (refine wpList_load_mid rfl 111 (.tmp 20) rfl g (done.length * 3) rfl _ _ HG.out Tryd.underlying111 rfl (by kernel_rfl) ?_))
          go_region
          have ho7 : World.ownsRow (wr.alloc (.cells #[.string fn, .string fs, .string ⟨#[]⟩] 111)).drew W0.heap.size 111 3 (.slice al nl cl) done.length (filesL done) := HOWN.out.alloc _
          have hb7 : Below W0.heap.size W0 (wr.alloc (.cells #[.string fn, .string fs, .string ⟨#[]⟩] 111)).drew := (HBR.out.alloc hbs _).drew
          have hx7 := heap_alloc_new wr (.cells #[.string fn, .string fs, .string ⟨#[]⟩] 111)
          replace hx7 : (wr.alloc (.cells #[.string fn, .string fs, .string ⟨#[]⟩] 111)).drew.heap[wr.heap.size]? = _ := hx7
          have hs7 : W0.heap.size ≤ (wr.alloc (.cells #[.string fn, .string fs, .string ⟨#[]⟩] 111)).drew.heap.size := hb7.size
          generalize (wr.alloc (.cells #[.string fn, .string fs, .string ⟨#[]⟩] 111)).drew = w7 at *
          obtain ⟨x0, x1, x2, -, -, -⟩ := rf_fields hx7
          have HO7 := Lib.hid ho7
          have HB7 := Lib.hid hb7
          clear ho7 hb7 hx7
          go_wp2_with (first | (at_builtin; refine wpList_append_files rfl (.tmp 50) (.tmp 52) rfl rfl W0.heap.size (.slice al nl cl) _ done [(⟨fn, fs, ⟨#[]⟩⟩ : RF)] rfl (HO7.out.alloc _) rfl (one_file' _ _ (by simp) (⟨fn, fs, ⟨#[]⟩⟩ : RF)) (by simp; omega) (by simp; omega) ?_; intro v2 w5 ho5 hg5 _; have HO5 := Lib.hid ho5; have HB5 := Lib.hid ((HB7.out.alloc hs7 _).grown hg5 (by simp; omega) (fun j hj => (HO7.out.lt j hj).1)); have hs5 : W0.heap.size ≤ w5.heap.size := Nat.le_trans (by simp; omega) hg5.size; clear ho5 hg5))
          go_roundw
          case rel => exact S4Rel.next (k' := k + 1) HEQ.out HDR.out hlt (by rw [startN_cons, HKS.out]; refine (if_neg h0).trans ?_; rw [List.drop_eq_nil_of_le (by omega : ks.length ≤ k + 1)]; congr 1; unfold stF4; rw [cat_zero]) rfl rfl (by omega) HO5.out HB5.out hs5
          case measure => simp [intOf]; omega
    · obtain hdL : done.length = L.length := by omega
      have HE : Hid (startN L ks = done) := Lib.hid (by rw [HEQ.out, hdL, List.drop_length]; simp [startN])
      have hlti : ¬ (done.length : Int) < L.length := by omega
      have hll : L.length ≤ 1000 := HL.out.2
      have HQR := Lib.hid ((HBR.out.block (w.heap.size + 1) (by omega)).trans HQ.out)
      clear HEQ
      go_wp2_with (first
        | (refine wpList_store_row rfl 27 (.tmp 4) (.tmp 57) rfl (w.heap.size + 1) #[.slice al nl cl, .int .i64 st, .bool false, .int .i64 0, .bool false] rfl rfl 27 _ HQR.out (by kernel_rfl) rfl (rs_one al nl cl ⟨L, st, false, 0, false⟩) ?_))
      refine bodyPost_ret (results_cell_row rfl _ _ (w.heap.size + 1) 27 #[.slice al nl cl, .int .i64 st, .bool false, .int .i64 0, .bool false] (0, 0) _ rfl (setRow_heap _ _ _ _ _ _ HQR.out) Tryd.underlying27 rfl (by kernel_rfl)) rfl ?_
      refine ⟨.slice al nl cl, rfl, ?_, below_setRow (HB.out.trans (HBR.out.mono (by omega))) (by omega) _⟩
      rw [HE.out]
      exact FilesIn.setRow (owns_files HOWN.out (by omega)) HQR.out
end Go.Proofs.YtggcodobkmhkgaaDoor

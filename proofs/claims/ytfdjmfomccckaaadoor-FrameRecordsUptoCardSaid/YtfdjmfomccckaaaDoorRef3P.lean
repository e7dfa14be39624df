/- The document's answer: One, behind its first tests. -/
import Derived.Test.YtfdjmfomccckaaaDoorRef3O
namespace Go.Proofs.YtfdjmfomccckaaaDoor
open Go.RowKit
set_option maxRecDepth 100000
set_option maxHeartbeats 4000000 in
theorem rone_rest (y : Value) (b : List Int) (w : World) (hy : BytesIn w y b) (ho : bytesOk b) (h8 : 8 ≤ b.length) (hl : b.length ≤ 140737488355328) (n : Nat) (hn : rdW b = n)
    (h1 : rdW (b.drop 4) = crcF (b.take 4)) (h2 : n ≠ 0) (h3 : n ≤ 1048576) (hs : b.length < n + 12) : Calls Tryd.prog 11 #[y] w (ROnePost y b (some 12, []) w) := by
  obtain ⟨a, c, rfl, hc, hm, hx⟩ := id hy
  have n1 : ¬ b.length = 0 := by omega
  have n2 : ¬ (b.length : Int) < 8 := by omega
  have s1 : ∀ w, (Instr.slice 22 (.slice a b.length c) (some (.int .i64 4)) (some (.int .i64 8)) none).run Tryd.prog w = .ok (.slice (cutA a c 4) 4 (c - 4)) w := sliceBlh a b.length c 4 8 (by omega) (by omega)
  have s2 : ∀ w, (Instr.slice 22 (.slice a b.length c) none (some (.int .i64 4)) none).run Tryd.prog w = .ok (.slice (cutA a c 0) 4 c) w := sliceBhi a b.length c 4 (by omega)
  have Y1 := Lib.hid (show BytesIn w (.slice (cutA a c 4) 4 (c - 4)) ((b.take 8).drop 4) from hy.cut 4 8 (by omega) (by omega))
  have Y2 := Lib.hid (hy.upto 4 (by omega))
  have C2 := Lib.hid (fun W (hw : BytesIn W (.slice (cutA a c 0) 4 c) (b.take 4)) => sumr_any _ (b.take 4) W hw (ho.take 4) (by rw [List.length_take]; omega))
  have HS := Lib.hid (word_str b 4 (crcF (b.take 4)) ho (by omega) (crcF_lt (ho.take 4)))
  have HCL := Lib.hid (crcF_lt (ho.take 4))
  generalize crcF (b.take 4) = t at *
  have heq : strOfNums (wordL t) = strOfNums ((b.take 8).drop 4) := HS.out.2 h1
  obtain ⟨ab, ao, z0, z1, z2, z3, rfl, b0, b1, b2, b3, hN, c0, c1, c2, c3⟩ := four_cells hy ho (by omega)
  rw [hn] at hN
  have hz' : ((n : Int) == 0) = false := by simp; omega
  have hg : decide ((1048576 : Int) < (n : Int)) = false := by simp; omega
  have hlt : (b.length : Int) < (n : Int) + 12 := by omega
  have q1 : (1 : Int) < b.length := by omega
  have q2 : (2 : Int) < b.length := by omega
  have q3 : (3 : Int) < b.length := by omega
  have m0 : 0 < b.length := by omega
  have m1 : 1 < b.length := by omega
  have m2 : 2 < b.length := by omega
  have m3 : 3 < b.length := by omega
  have p0 : IntKind.i64.wrap ((z0 : Int) * 16777216) = (z0 : Int) * 16777216 := IntWalk.i64_in _ (by omega)
  have p1 : IntKind.i64.wrap ((z1 : Int) * 65536) = (z1 : Int) * 65536 := IntWalk.i64_in _ (by omega)
  have p2 : IntKind.i64.wrap ((z2 : Int) * 256) = (z2 : Int) * 256 := IntWalk.i64_in _ (by omega)
  have p3 : IntKind.i64.wrap ((z0 : Int) * 16777216 + (z1 : Int) * 65536) = (z0 : Int) * 16777216 + (z1 : Int) * 65536 := IntWalk.i64_in _ (by omega)
  have p4 : IntKind.i64.wrap ((z0 : Int) * 16777216 + (z1 : Int) * 65536 + (z2 : Int) * 256) = (z0 : Int) * 16777216 + (z1 : Int) * 65536 + (z2 : Int) * 256 := IntWalk.i64_in _ (by omega)
  have p5 : IntKind.i64.wrap ((z0 : Int) * 16777216 + (z1 : Int) * 65536 + (z2 : Int) * 256 + (z3 : Int)) = (n : Int) := by rw [IntWalk.i64_in _ (by omega)]; omega
  have hS0 := fun W (hy : BytesIn W (.slice (cutA (some ⟨ab, ao, none⟩) c 4) 4 (c - 4)) ((b.take 8).drop 4)) => conv_bytes W _ _ hy
  rw [← heq] at hS0
  have HSC := Lib.hid hS0
  have hne : ((strOfNums (wordL t)).toList == (strOfNums (wordL t)).toList) = true := by simp
  have HW4 := Lib.hid (fun (W : World) v hv => conv_bytes W v (wordL t) hv)
  clear heq hn h1
  generalize strOfNums (wordL t) = sB at *
  clear ho hx hm hc hN HS
  go_enter Tryd.func11, Tryd.ntmps11
  go_wp2
  go_quiet (fail)
  have HB := Lib.hid (show Below w.heap.size w (w.drewN nq).drew from ⟨rfl, rfl, rfl, Nat.le_refl _, fun _ _ => rfl⟩)
  replace Y1 := Lib.hid (show BytesIn (w.drewN nq).drew _ _ from Y1.out)
  replace Y2 := Lib.hid (show BytesIn (w.drewN nq).drew _ _ from Y2.out)
  replace hS0 : (convert 22 9 (.slice (cutA (some ⟨ab, ao, none⟩) c 4) 4 (c - 4))).run Tryd.prog (w.drewN nq).drew = .ok (.string sB) (w.drewN nq).drew := hS0 _ Y1.out
  clear c0 c1 c2 c3 q1 q2 q3 m0 m1 m2 m3 p0 p1 p2 p3 p4 p5 b0 b1 b2 b3
  generalize w.drewN nq = w1 at *
  have HQ := Lib.hid (Below.refl w1.drew.heap.size w1.drew)
  go_wp2_with (fail)
  first
    | (go_region_held (fun w => (convert 22 9 (.slice (cutA (some ⟨ab, ao, none⟩) c 4) 4 (c - 4))).run Tryd.prog w = .ok (.string sB) w)
        (exact hS0)
        (first
          | (go_at_call 18; (with_reducible refine (C2.out _ (Y2.out.below HQ.out)).mono ?_); rintro e w3 ⟨rfl, rfl⟩)
          | (go_at_call 21; (with_reducible refine (four_any t _ HCL.out).mono ?_); rintro e w3 ⟨v3, rfl, ho3, hb3⟩; have hcv3 := HW4.out w3 v3 (owns_in ho3 (by unfold maxLen; rw [wordL_length]; omega)); replace HQ := Lib.hid (HQ.out.trans (hb3.mono HQ.out.size)); have hS0 := HSC.out w3 (Y1.out.below HQ.out); clear ho3 hb3)))
    | fail
  all_goals
    go_wp2_with (fail)
    go_ret3
    exact ⟨HB.out.trans (HQ.out.mono HB.out.size), rfl⟩
end Go.Proofs.YtfdjmfomccckaaaDoor

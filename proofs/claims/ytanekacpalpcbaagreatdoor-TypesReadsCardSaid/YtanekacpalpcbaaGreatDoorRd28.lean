/- Part 28 of the proof. -/
import Derived.Test.YtanekacpalpcbaaGreatDoorRd27
namespace Go.Proofs.YtanekacpalpcbaaGreatDoor
set_option linter.unusedVariables false
set_option linter.unusedSimpArgs false
open Go.RowKit
set_option maxRecDepth 100000
set_option linter.unusedSimpArgs false
set_option linter.unusedVariables false
theorem voD_c0 {KI HT RD : Int} {BK : Nat → Int} {VL : Int} {sv : Value} {w : World} {g : Nat} {T : TypeId} (h : w.heap[g]? = some (.cells (voD KI HT RD BK VL sv) T (0, 0))) : w.cell? ⟨g, 0, none⟩ = some (.int .i64 KI) := cellT_app (x := .int .i64 KI) (A := #[]) (C := #[.int .i64 HT] ++ (#[.int .i64 RD] ++ (rowOf .u8 32 BK ++ (#[.int .i64 VL] ++ (#[sv]))))) h (by apply Array.toList_inj.1; simp [voD, rowOf_size]) (by simp [voD, rowOf_size])
theorem voD_s0 {KI HT RD : Int} {BK : Nat → Int} {VL : Int} {sv : Value} {KI' : Int} {w : World} {g : Nat} {T : TypeId} (h : w.heap[g]? = some (.cells (voD KI HT RD BK VL sv) T (0, 0))) : (w.setCell ⟨g, 0, none⟩ (.int .i64 KI')).heap[g]? = some (.cells (voD KI' HT RD BK VL sv) T (0, 0)) := setT_one (x := .int .i64 KI) (y := .int .i64 KI') (A := #[]) (C := #[.int .i64 HT] ++ (#[.int .i64 RD] ++ (rowOf .u8 32 BK ++ (#[.int .i64 VL] ++ (#[sv]))))) h (by apply Array.toList_inj.1; simp [voD, rowOf_size]) (by apply Array.toList_inj.1; simp [voD, rowOf_size]) (by simp [voD, rowOf_size])
theorem voD_c1 {KI HT RD : Int} {BK : Nat → Int} {VL : Int} {sv : Value} {w : World} {g : Nat} {T : TypeId} (h : w.heap[g]? = some (.cells (voD KI HT RD BK VL sv) T (0, 0))) : w.cell? ⟨g, 1, none⟩ = some (.int .i64 HT) := cellT_app (x := .int .i64 HT) (A := #[.int .i64 KI]) (C := #[.int .i64 RD] ++ (rowOf .u8 32 BK ++ (#[.int .i64 VL] ++ (#[sv])))) h (by apply Array.toList_inj.1; simp [voD, rowOf_size]) (by simp [voD, rowOf_size])
theorem voD_s1 {KI HT RD : Int} {BK : Nat → Int} {VL : Int} {sv : Value} {HT' : Int} {w : World} {g : Nat} {T : TypeId} (h : w.heap[g]? = some (.cells (voD KI HT RD BK VL sv) T (0, 0))) : (w.setCell ⟨g, 1, none⟩ (.int .i64 HT')).heap[g]? = some (.cells (voD KI HT' RD BK VL sv) T (0, 0)) := setT_one (x := .int .i64 HT) (y := .int .i64 HT') (A := #[.int .i64 KI]) (C := #[.int .i64 RD] ++ (rowOf .u8 32 BK ++ (#[.int .i64 VL] ++ (#[sv])))) h (by apply Array.toList_inj.1; simp [voD, rowOf_size]) (by apply Array.toList_inj.1; simp [voD, rowOf_size]) (by simp [voD, rowOf_size])
theorem voD_c2 {KI HT RD : Int} {BK : Nat → Int} {VL : Int} {sv : Value} {w : World} {g : Nat} {T : TypeId} (h : w.heap[g]? = some (.cells (voD KI HT RD BK VL sv) T (0, 0))) : w.cell? ⟨g, 2, none⟩ = some (.int .i64 RD) := cellT_app (x := .int .i64 RD) (A := #[.int .i64 KI] ++ #[.int .i64 HT]) (C := rowOf .u8 32 BK ++ (#[.int .i64 VL] ++ (#[sv]))) h (by apply Array.toList_inj.1; simp [voD, rowOf_size]) (by simp [voD, rowOf_size])
theorem voD_s2 {KI HT RD : Int} {BK : Nat → Int} {VL : Int} {sv : Value} {RD' : Int} {w : World} {g : Nat} {T : TypeId} (h : w.heap[g]? = some (.cells (voD KI HT RD BK VL sv) T (0, 0))) : (w.setCell ⟨g, 2, none⟩ (.int .i64 RD')).heap[g]? = some (.cells (voD KI HT RD' BK VL sv) T (0, 0)) := setT_one (x := .int .i64 RD) (y := .int .i64 RD') (A := #[.int .i64 KI] ++ #[.int .i64 HT]) (C := rowOf .u8 32 BK ++ (#[.int .i64 VL] ++ (#[sv]))) h (by apply Array.toList_inj.1; simp [voD, rowOf_size]) (by apply Array.toList_inj.1; simp [voD, rowOf_size]) (by simp [voD, rowOf_size])
theorem voD_s3 {KI HT RD : Int} {BK : Nat → Int} {VL : Int} {sv : Value} {BK' : Nat → Int} {w : World} {g : Nat} {T : TypeId} (h : w.heap[g]? = some (.cells (voD KI HT RD BK VL sv) T (0, 0))) : (w.setCells g 3 (rowOf .u8 32 BK').toList).heap[g]? = some (.cells (voD KI HT RD BK' VL sv) T (0, 0)) := setT_app (A := #[.int .i64 KI] ++ #[.int .i64 HT] ++ #[.int .i64 RD]) (B := rowOf .u8 32 BK) (C := #[.int .i64 VL] ++ (#[sv])) h (by apply Array.toList_inj.1; simp [voD, rowOf_size]) (by apply Array.toList_inj.1; simp [voD, rowOf_size]) (by simp [voD, rowOf_size]) (by simp [voD, rowOf_size])
theorem voD_t3 {KI HT RD : Int} {BK : Nat → Int} {VL : Int} {sv : Value} {w : World} {g : Nat} {T : TypeId} (h : w.heap[g]? = some (.cells (voD KI HT RD BK VL sv) T (0, 0))) : w.there g 3 32 := by
  have := thereT (A := #[.int .i64 KI] ++ #[.int .i64 HT] ++ #[.int .i64 RD]) (B := rowOf .u8 32 BK) (C := #[.int .i64 VL] ++ (#[sv])) (n := 3) h (by apply Array.toList_inj.1; simp [voD, rowOf_size]) (by simp [voD, rowOf_size])
  have e : (rowOf .u8 32 BK).size = 32 := by simp [voD, rowOf_size]
  rwa [e] at this
theorem voD_c4 {KI HT RD : Int} {BK : Nat → Int} {VL : Int} {sv : Value} {w : World} {g : Nat} {T : TypeId} (h : w.heap[g]? = some (.cells (voD KI HT RD BK VL sv) T (0, 0))) : w.cell? ⟨g, 35, none⟩ = some (.int .i64 VL) := cellT_app (x := .int .i64 VL) (A := #[.int .i64 KI] ++ #[.int .i64 HT] ++ #[.int .i64 RD] ++ rowOf .u8 32 BK) (C := #[sv]) h (by apply Array.toList_inj.1; simp [voD, rowOf_size]) (by simp [voD, rowOf_size])
theorem voD_s4 {KI HT RD : Int} {BK : Nat → Int} {VL : Int} {sv : Value} {VL' : Int} {w : World} {g : Nat} {T : TypeId} (h : w.heap[g]? = some (.cells (voD KI HT RD BK VL sv) T (0, 0))) : (w.setCell ⟨g, 35, none⟩ (.int .i64 VL')).heap[g]? = some (.cells (voD KI HT RD BK VL' sv) T (0, 0)) := setT_one (x := .int .i64 VL) (y := .int .i64 VL') (A := #[.int .i64 KI] ++ #[.int .i64 HT] ++ #[.int .i64 RD] ++ rowOf .u8 32 BK) (C := #[sv]) h (by apply Array.toList_inj.1; simp [voD, rowOf_size]) (by apply Array.toList_inj.1; simp [voD, rowOf_size]) (by simp [voD, rowOf_size])
theorem voD_c5 {KI HT RD : Int} {BK : Nat → Int} {VL : Int} {sv : Value} {w : World} {g : Nat} {T : TypeId} (h : w.heap[g]? = some (.cells (voD KI HT RD BK VL sv) T (0, 0))) : w.cell? ⟨g, 36, none⟩ = some (sv) := cellT_app (x := sv) (A := #[.int .i64 KI] ++ #[.int .i64 HT] ++ #[.int .i64 RD] ++ rowOf .u8 32 BK ++ #[.int .i64 VL]) (C := #[]) h (by apply Array.toList_inj.1; simp [voD, rowOf_size]) (by simp [voD, rowOf_size])
theorem voD_s5 {KI HT RD : Int} {BK : Nat → Int} {VL : Int} {sv : Value} {sv' : Value} {w : World} {g : Nat} {T : TypeId} (h : w.heap[g]? = some (.cells (voD KI HT RD BK VL sv) T (0, 0))) : (w.setCell ⟨g, 36, none⟩ (sv')).heap[g]? = some (.cells (voD KI HT RD BK VL sv') T (0, 0)) := setT_one (x := sv) (y := sv') (A := #[.int .i64 KI] ++ #[.int .i64 HT] ++ #[.int .i64 RD] ++ rowOf .u8 32 BK ++ #[.int .i64 VL]) (C := #[]) h (by apply Array.toList_inj.1; simp [voD, rowOf_size]) (by apply Array.toList_inj.1; simp [voD, rowOf_size]) (by simp [voD, rowOf_size])
theorem hdD_c0 {CH : ByteArray} {HT TM : Int} {LA AP TX VA NX : Nat → Int} {PR : Int} {w : World} {g : Nat} {T : TypeId} (h : w.heap[g]? = some (.cells (hdD CH HT TM LA AP TX VA NX PR) T (0, 0))) : w.cell? ⟨g, 0, none⟩ = some (.string CH) := cellT_app (x := .string CH) (A := #[]) (C := #[.int .i64 HT] ++ (#[.int .i64 TM] ++ (rowOf .u8 32 LA ++ (rowOf .u8 32 AP ++ (rowOf .u8 32 TX ++ (rowOf .u8 32 VA ++ (rowOf .u8 32 NX ++ (#[.int .i64 PR])))))))) h (by apply Array.toList_inj.1; simp [hdD, rowOf_size]) (by simp [hdD, rowOf_size])
theorem hdD_s0 {CH : ByteArray} {HT TM : Int} {LA AP TX VA NX : Nat → Int} {PR : Int} {CH' : ByteArray} {w : World} {g : Nat} {T : TypeId} (h : w.heap[g]? = some (.cells (hdD CH HT TM LA AP TX VA NX PR) T (0, 0))) : (w.setCell ⟨g, 0, none⟩ (.string CH')).heap[g]? = some (.cells (hdD CH' HT TM LA AP TX VA NX PR) T (0, 0)) := setT_one (x := .string CH) (y := .string CH') (A := #[]) (C := #[.int .i64 HT] ++ (#[.int .i64 TM] ++ (rowOf .u8 32 LA ++ (rowOf .u8 32 AP ++ (rowOf .u8 32 TX ++ (rowOf .u8 32 VA ++ (rowOf .u8 32 NX ++ (#[.int .i64 PR])))))))) h (by apply Array.toList_inj.1; simp [hdD, rowOf_size]) (by apply Array.toList_inj.1; simp [hdD, rowOf_size]) (by simp [hdD, rowOf_size])
theorem hdD_c1 {CH : ByteArray} {HT TM : Int} {LA AP TX VA NX : Nat → Int} {PR : Int} {w : World} {g : Nat} {T : TypeId} (h : w.heap[g]? = some (.cells (hdD CH HT TM LA AP TX VA NX PR) T (0, 0))) : w.cell? ⟨g, 1, none⟩ = some (.int .i64 HT) := cellT_app (x := .int .i64 HT) (A := #[.string CH]) (C := #[.int .i64 TM] ++ (rowOf .u8 32 LA ++ (rowOf .u8 32 AP ++ (rowOf .u8 32 TX ++ (rowOf .u8 32 VA ++ (rowOf .u8 32 NX ++ (#[.int .i64 PR]))))))) h (by apply Array.toList_inj.1; simp [hdD, rowOf_size]) (by simp [hdD, rowOf_size])
theorem hdD_s1 {CH : ByteArray} {HT TM : Int} {LA AP TX VA NX : Nat → Int} {PR : Int} {HT' : Int} {w : World} {g : Nat} {T : TypeId} (h : w.heap[g]? = some (.cells (hdD CH HT TM LA AP TX VA NX PR) T (0, 0))) : (w.setCell ⟨g, 1, none⟩ (.int .i64 HT')).heap[g]? = some (.cells (hdD CH HT' TM LA AP TX VA NX PR) T (0, 0)) := setT_one (x := .int .i64 HT) (y := .int .i64 HT') (A := #[.string CH]) (C := #[.int .i64 TM] ++ (rowOf .u8 32 LA ++ (rowOf .u8 32 AP ++ (rowOf .u8 32 TX ++ (rowOf .u8 32 VA ++ (rowOf .u8 32 NX ++ (#[.int .i64 PR]))))))) h (by apply Array.toList_inj.1; simp [hdD, rowOf_size]) (by apply Array.toList_inj.1; simp [hdD, rowOf_size]) (by simp [hdD, rowOf_size])
theorem hdD_c2 {CH : ByteArray} {HT TM : Int} {LA AP TX VA NX : Nat → Int} {PR : Int} {w : World} {g : Nat} {T : TypeId} (h : w.heap[g]? = some (.cells (hdD CH HT TM LA AP TX VA NX PR) T (0, 0))) : w.cell? ⟨g, 2, none⟩ = some (.int .i64 TM) := cellT_app (x := .int .i64 TM) (A := #[.string CH] ++ #[.int .i64 HT]) (C := rowOf .u8 32 LA ++ (rowOf .u8 32 AP ++ (rowOf .u8 32 TX ++ (rowOf .u8 32 VA ++ (rowOf .u8 32 NX ++ (#[.int .i64 PR])))))) h (by apply Array.toList_inj.1; simp [hdD, rowOf_size]) (by simp [hdD, rowOf_size])
theorem hdD_s2 {CH : ByteArray} {HT TM : Int} {LA AP TX VA NX : Nat → Int} {PR : Int} {TM' : Int} {w : World} {g : Nat} {T : TypeId} (h : w.heap[g]? = some (.cells (hdD CH HT TM LA AP TX VA NX PR) T (0, 0))) : (w.setCell ⟨g, 2, none⟩ (.int .i64 TM')).heap[g]? = some (.cells (hdD CH HT TM' LA AP TX VA NX PR) T (0, 0)) := setT_one (x := .int .i64 TM) (y := .int .i64 TM') (A := #[.string CH] ++ #[.int .i64 HT]) (C := rowOf .u8 32 LA ++ (rowOf .u8 32 AP ++ (rowOf .u8 32 TX ++ (rowOf .u8 32 VA ++ (rowOf .u8 32 NX ++ (#[.int .i64 PR])))))) h (by apply Array.toList_inj.1; simp [hdD, rowOf_size]) (by apply Array.toList_inj.1; simp [hdD, rowOf_size]) (by simp [hdD, rowOf_size])
theorem hdD_s3 {CH : ByteArray} {HT TM : Int} {LA AP TX VA NX : Nat → Int} {PR : Int} {LA' : Nat → Int} {w : World} {g : Nat} {T : TypeId} (h : w.heap[g]? = some (.cells (hdD CH HT TM LA AP TX VA NX PR) T (0, 0))) : (w.setCells g 3 (rowOf .u8 32 LA').toList).heap[g]? = some (.cells (hdD CH HT TM LA' AP TX VA NX PR) T (0, 0)) := setT_app (A := #[.string CH] ++ #[.int .i64 HT] ++ #[.int .i64 TM]) (B := rowOf .u8 32 LA) (C := rowOf .u8 32 AP ++ (rowOf .u8 32 TX ++ (rowOf .u8 32 VA ++ (rowOf .u8 32 NX ++ (#[.int .i64 PR]))))) h (by apply Array.toList_inj.1; simp [hdD, rowOf_size]) (by apply Array.toList_inj.1; simp [hdD, rowOf_size]) (by simp [hdD, rowOf_size]) (by simp [hdD, rowOf_size])
theorem hdD_t3 {CH : ByteArray} {HT TM : Int} {LA AP TX VA NX : Nat → Int} {PR : Int} {w : World} {g : Nat} {T : TypeId} (h : w.heap[g]? = some (.cells (hdD CH HT TM LA AP TX VA NX PR) T (0, 0))) : w.there g 3 32 := by
  have := thereT (A := #[.string CH] ++ #[.int .i64 HT] ++ #[.int .i64 TM]) (B := rowOf .u8 32 LA) (C := rowOf .u8 32 AP ++ (rowOf .u8 32 TX ++ (rowOf .u8 32 VA ++ (rowOf .u8 32 NX ++ (#[.int .i64 PR]))))) (n := 3) h (by apply Array.toList_inj.1; simp [hdD, rowOf_size]) (by simp [hdD, rowOf_size])
  have e : (rowOf .u8 32 LA).size = 32 := by simp [hdD, rowOf_size]
  rwa [e] at this
theorem hdD_s4 {CH : ByteArray} {HT TM : Int} {LA AP TX VA NX : Nat → Int} {PR : Int} {AP' : Nat → Int} {w : World} {g : Nat} {T : TypeId} (h : w.heap[g]? = some (.cells (hdD CH HT TM LA AP TX VA NX PR) T (0, 0))) : (w.setCells g 35 (rowOf .u8 32 AP').toList).heap[g]? = some (.cells (hdD CH HT TM LA AP' TX VA NX PR) T (0, 0)) := setT_app (A := #[.string CH] ++ #[.int .i64 HT] ++ #[.int .i64 TM] ++ rowOf .u8 32 LA) (B := rowOf .u8 32 AP) (C := rowOf .u8 32 TX ++ (rowOf .u8 32 VA ++ (rowOf .u8 32 NX ++ (#[.int .i64 PR])))) h (by apply Array.toList_inj.1; simp [hdD, rowOf_size]) (by apply Array.toList_inj.1; simp [hdD, rowOf_size]) (by simp [hdD, rowOf_size]) (by simp [hdD, rowOf_size])
theorem hdD_t4 {CH : ByteArray} {HT TM : Int} {LA AP TX VA NX : Nat → Int} {PR : Int} {w : World} {g : Nat} {T : TypeId} (h : w.heap[g]? = some (.cells (hdD CH HT TM LA AP TX VA NX PR) T (0, 0))) : w.there g 35 32 := by
  have := thereT (A := #[.string CH] ++ #[.int .i64 HT] ++ #[.int .i64 TM] ++ rowOf .u8 32 LA) (B := rowOf .u8 32 AP) (C := rowOf .u8 32 TX ++ (rowOf .u8 32 VA ++ (rowOf .u8 32 NX ++ (#[.int .i64 PR])))) (n := 35) h (by apply Array.toList_inj.1; simp [hdD, rowOf_size]) (by simp [hdD, rowOf_size])
  have e : (rowOf .u8 32 AP).size = 32 := by simp [hdD, rowOf_size]
  rwa [e] at this
theorem hdD_s5 {CH : ByteArray} {HT TM : Int} {LA AP TX VA NX : Nat → Int} {PR : Int} {TX' : Nat → Int} {w : World} {g : Nat} {T : TypeId} (h : w.heap[g]? = some (.cells (hdD CH HT TM LA AP TX VA NX PR) T (0, 0))) : (w.setCells g 67 (rowOf .u8 32 TX').toList).heap[g]? = some (.cells (hdD CH HT TM LA AP TX' VA NX PR) T (0, 0)) := setT_app (A := #[.string CH] ++ #[.int .i64 HT] ++ #[.int .i64 TM] ++ rowOf .u8 32 LA ++ rowOf .u8 32 AP) (B := rowOf .u8 32 TX) (C := rowOf .u8 32 VA ++ (rowOf .u8 32 NX ++ (#[.int .i64 PR]))) h (by apply Array.toList_inj.1; simp [hdD, rowOf_size]) (by apply Array.toList_inj.1; simp [hdD, rowOf_size]) (by simp [hdD, rowOf_size]) (by simp [hdD, rowOf_size])
theorem hdD_t5 {CH : ByteArray} {HT TM : Int} {LA AP TX VA NX : Nat → Int} {PR : Int} {w : World} {g : Nat} {T : TypeId} (h : w.heap[g]? = some (.cells (hdD CH HT TM LA AP TX VA NX PR) T (0, 0))) : w.there g 67 32 := by
  have := thereT (A := #[.string CH] ++ #[.int .i64 HT] ++ #[.int .i64 TM] ++ rowOf .u8 32 LA ++ rowOf .u8 32 AP) (B := rowOf .u8 32 TX) (C := rowOf .u8 32 VA ++ (rowOf .u8 32 NX ++ (#[.int .i64 PR]))) (n := 67) h (by apply Array.toList_inj.1; simp [hdD, rowOf_size]) (by simp [hdD, rowOf_size])
  have e : (rowOf .u8 32 TX).size = 32 := by simp [hdD, rowOf_size]
  rwa [e] at this
theorem hdD_s6 {CH : ByteArray} {HT TM : Int} {LA AP TX VA NX : Nat → Int} {PR : Int} {VA' : Nat → Int} {w : World} {g : Nat} {T : TypeId} (h : w.heap[g]? = some (.cells (hdD CH HT TM LA AP TX VA NX PR) T (0, 0))) : (w.setCells g 99 (rowOf .u8 32 VA').toList).heap[g]? = some (.cells (hdD CH HT TM LA AP TX VA' NX PR) T (0, 0)) := setT_app (A := #[.string CH] ++ #[.int .i64 HT] ++ #[.int .i64 TM] ++ rowOf .u8 32 LA ++ rowOf .u8 32 AP ++ rowOf .u8 32 TX) (B := rowOf .u8 32 VA) (C := rowOf .u8 32 NX ++ (#[.int .i64 PR])) h (by apply Array.toList_inj.1; simp [hdD, rowOf_size]) (by apply Array.toList_inj.1; simp [hdD, rowOf_size]) (by simp [hdD, rowOf_size]) (by simp [hdD, rowOf_size])
theorem hdD_t6 {CH : ByteArray} {HT TM : Int} {LA AP TX VA NX : Nat → Int} {PR : Int} {w : World} {g : Nat} {T : TypeId} (h : w.heap[g]? = some (.cells (hdD CH HT TM LA AP TX VA NX PR) T (0, 0))) : w.there g 99 32 := by
  have := thereT (A := #[.string CH] ++ #[.int .i64 HT] ++ #[.int .i64 TM] ++ rowOf .u8 32 LA ++ rowOf .u8 32 AP ++ rowOf .u8 32 TX) (B := rowOf .u8 32 VA) (C := rowOf .u8 32 NX ++ (#[.int .i64 PR])) (n := 99) h (by apply Array.toList_inj.1; simp [hdD, rowOf_size]) (by simp [hdD, rowOf_size])
  have e : (rowOf .u8 32 VA).size = 32 := by simp [hdD, rowOf_size]
  rwa [e] at this
theorem hdD_s7 {CH : ByteArray} {HT TM : Int} {LA AP TX VA NX : Nat → Int} {PR : Int} {NX' : Nat → Int} {w : World} {g : Nat} {T : TypeId} (h : w.heap[g]? = some (.cells (hdD CH HT TM LA AP TX VA NX PR) T (0, 0))) : (w.setCells g 131 (rowOf .u8 32 NX').toList).heap[g]? = some (.cells (hdD CH HT TM LA AP TX VA NX' PR) T (0, 0)) := setT_app (A := #[.string CH] ++ #[.int .i64 HT] ++ #[.int .i64 TM] ++ rowOf .u8 32 LA ++ rowOf .u8 32 AP ++ rowOf .u8 32 TX ++ rowOf .u8 32 VA) (B := rowOf .u8 32 NX) (C := #[.int .i64 PR]) h (by apply Array.toList_inj.1; simp [hdD, rowOf_size]) (by apply Array.toList_inj.1; simp [hdD, rowOf_size]) (by simp [hdD, rowOf_size]) (by simp [hdD, rowOf_size])
theorem hdD_t7 {CH : ByteArray} {HT TM : Int} {LA AP TX VA NX : Nat → Int} {PR : Int} {w : World} {g : Nat} {T : TypeId} (h : w.heap[g]? = some (.cells (hdD CH HT TM LA AP TX VA NX PR) T (0, 0))) : w.there g 131 32 := by
  have := thereT (A := #[.string CH] ++ #[.int .i64 HT] ++ #[.int .i64 TM] ++ rowOf .u8 32 LA ++ rowOf .u8 32 AP ++ rowOf .u8 32 TX ++ rowOf .u8 32 VA) (B := rowOf .u8 32 NX) (C := #[.int .i64 PR]) (n := 131) h (by apply Array.toList_inj.1; simp [hdD, rowOf_size]) (by simp [hdD, rowOf_size])
  have e : (rowOf .u8 32 NX).size = 32 := by simp [hdD, rowOf_size]
  rwa [e] at this
theorem hdD_c8 {CH : ByteArray} {HT TM : Int} {LA AP TX VA NX : Nat → Int} {PR : Int} {w : World} {g : Nat} {T : TypeId} (h : w.heap[g]? = some (.cells (hdD CH HT TM LA AP TX VA NX PR) T (0, 0))) : w.cell? ⟨g, 163, none⟩ = some (.int .i64 PR) := cellT_app (x := .int .i64 PR) (A := #[.string CH] ++ #[.int .i64 HT] ++ #[.int .i64 TM] ++ rowOf .u8 32 LA ++ rowOf .u8 32 AP ++ rowOf .u8 32 TX ++ rowOf .u8 32 VA ++ rowOf .u8 32 NX) (C := #[]) h (by apply Array.toList_inj.1; simp [hdD, rowOf_size]) (by simp [hdD, rowOf_size])
theorem hdD_s8 {CH : ByteArray} {HT TM : Int} {LA AP TX VA NX : Nat → Int} {PR : Int} {PR' : Int} {w : World} {g : Nat} {T : TypeId} (h : w.heap[g]? = some (.cells (hdD CH HT TM LA AP TX VA NX PR) T (0, 0))) : (w.setCell ⟨g, 163, none⟩ (.int .i64 PR')).heap[g]? = some (.cells (hdD CH HT TM LA AP TX VA NX PR') T (0, 0)) := setT_one (x := .int .i64 PR) (y := .int .i64 PR') (A := #[.string CH] ++ #[.int .i64 HT] ++ #[.int .i64 TM] ++ rowOf .u8 32 LA ++ rowOf .u8 32 AP ++ rowOf .u8 32 TX ++ rowOf .u8 32 VA ++ rowOf .u8 32 NX) (C := #[]) h (by apply Array.toList_inj.1; simp [hdD, rowOf_size]) (by apply Array.toList_inj.1; simp [hdD, rowOf_size]) (by simp [hdD, rowOf_size])
theorem voD_one (KI HT RD : Int) (BK : Nat → Int) (VL : Int) (a : Option Addr) (n c : Nat) : (voD KI HT RD BK VL (.slice a n c)).all (·.oneCell') = true := by
  unfold voD
  simp only [Array.all_append, rowOf_one]
  simp [Value.oneCell']
set_option maxHeartbeats 8000000 in
theorem rdvote_any (v : Value) (s : RSt) (w : World) (hy : BytesIn w v s.1) (ok : okR11 s) :
    Calls Tryz.prog 117 #[.agg (rdC v (numE s.2))] w fun e w' => ∃ v' sv, e = .returned (.tuple #[.agg (rdC v' (numE (vtR s).2)), .agg (voC (vtV s sv))]) ∧ BytesIn w' v' (vtR s).1 ∧ v'.ownBlock = v.ownBlock ∧ BytesIn w' sv (vtG s) ∧ (∀ j, sv.ownBlock = some j → w.heap.size ≤ j ∧ j < w'.heap.size) ∧ Below w.heap.size w w' := by
  obtain ⟨KI, s1, e1⟩ : ∃ a b, intS s = (a, b) := ⟨_, _, rfl⟩
  have ok1 : okR11 s1 := by have := intS_k11 ok; rwa [e1] at this
  have HC1 := Lib.hid (ri_let e1 ok)
  have HEs1 := Lib.hid (show s.1 = [] → s1.1 = [] from fun h => by have := intE11 h; rwa [e1] at this)
  obtain ⟨HT, s2, e2⟩ : ∃ a b, intS s1 = (a, b) := ⟨_, _, rfl⟩
  have ok2 : okR11 s2 := by have := intS_k11 ok1; rwa [e2] at this
  have HC2 := Lib.hid (ri_let e2 ok1)
  have HEs2 := Lib.hid (show s1.1 = [] → s2.1 = [] from fun h => by have := intE11 h; rwa [e2] at this)
  obtain ⟨RD, s3, e3⟩ : ∃ a b, intS s2 = (a, b) := ⟨_, _, rfl⟩
  have ok3 : okR11 s3 := by have := intS_k11 ok2; rwa [e3] at this
  have HC3 := Lib.hid (ri_let e3 ok2)
  have HEs3 := Lib.hid (show s2.1 = [] → s3.1 = [] from fun h => by have := intE11 h; rwa [e3] at this)
  obtain ⟨BK, s4, e4⟩ : ∃ a b, hashS s3 = (a, b) := ⟨_, _, rfl⟩
  have ok4 : okR11 s4 := by have := hashS_k11 ok3; rwa [e4] at this
  have HC4 := Lib.hid (rh_let e4 ok3)
  have HEs4 := Lib.hid (show s3.1 = [] → s4.1 = [] from fun h => by have := hashE11 h; rwa [e4] at this)
  obtain ⟨VL, s5, e5⟩ : ∃ a b, intS s4 = (a, b) := ⟨_, _, rfl⟩
  have ok5 : okR11 s5 := by have := intS_k11 ok4; rwa [e5] at this
  have HC5 := Lib.hid (ri_let e5 ok4)
  have HEs5 := Lib.hid (show s4.1 = [] → s5.1 = [] from fun h => by have := intE11 h; rwa [e5] at this)
  obtain ⟨SG, s6, e6⟩ : ∃ a b, partS s5 (65536 : Int) = (a, b) := ⟨_, _, rfl⟩
  have ok6 : okR11 s6 := by have := partS_k11 (most := (65536 : Int)) ok5; rwa [e6] at this
  have HC6 := Lib.hid (rp_let (most := 65536) (m := 65536) (by omega) rfl e6 ok5)
  have HEs6 := Lib.hid (show s5.1 = [] → s6.1 = [] from fun h => by have := partE11 (most := (65536 : Int)) h; rwa [e6] at this)
  have HR := Lib.hid (show vtR s = s6 from by unfold vtR vt5; rw [e1]; simp only; rw [e2]; simp only; rw [e3]; simp only; rw [e4]; simp only; rw [e5]; simp only; exact (congrArg Prod.snd e6))
  have HG := Lib.hid (show vtG s = SG from by unfold vtG vt5; rw [e1]; simp only; rw [e2]; simp only; rw [e3]; simp only; rw [e4]; simp only; rw [e5]; simp only; exact (congrArg Prod.fst e6))
  have HV := Lib.hid (show ∀ sv, voC (vtV s sv) = voD KI HT RD BK VL sv from fun sv => by rw [voC_D]; unfold vtV; simp only; rw [e1]; simp only; rw [e2]; simp only; rw [e3]; simp only; rw [e4]; simp only; rw [e5])
  clear e1 e2 e3 e4 e5 e6 ok1 ok2 ok3 ok4 ok5 ok6
  obtain ⟨va, vc, rfl, -⟩ := id hy
  obtain ⟨CZ, hbz, hCZ⟩ : ∃ C, Tryz.prog.built 93 [] = some C ∧ C = voD 0 0 0 (fun _ => 0) 0 (.slice none 0 0) := ⟨_, by kernel_rfl, rfl⟩
  have HCZ := Lib.hid hCZ
  have HBZ := Lib.hid hbz
  have HCS := Lib.hid ((congrArg Array.size hCZ).trans (voD_size _ _ _ _ _ _))
  have HCO := Lib.hid (show CZ.all (·.oneCell') = true from by rw [hCZ]; exact voD_one _ _ _ _ _ _ _ _)
  have HST := Lib.hid (fun (w1 : World) (Z : Array Value) (hZ : Z.size = 37) (hA : ((w.alloc (.cells (rdC (.slice va s.1.length vc) (numE s.2)) 152)).alloc (.cells (rdC (.slice none 0 0) 0) 152)).alloc (.cells Z 93) = w1) => rr_start hy hZ hA)
  clear hy ok hCZ hbz
  go_enter Tryz.func117, Tryz.ntmps117
  go_upto_region 1 with (fail)
  rw [← r2_zero]
  generalize hA : World.alloc (World.alloc (World.alloc w _) _) _ = w1
  have HST1 := Lib.hid (HST.out w1 _ (by kernel_rfl) hA)
  clear hA HST
  go_upto_region 2 with (first
    | (refine wpList_buildTo rfl 93 #[] rfl (some 5) rfl CZ (by refine Eq.trans (congrArg (Tryz.prog.built 93) ?_) HBZ.out; kernel_rfl) ?_)
    | (refine wpList_store_row rfl 93 (.tmp 4) (.tmp 5) rfl w1.heap.size CZ rfl rfl 93 _ (heap_alloc_new _ _) (by rw [HCS.out]; kernel_rfl) (by rw [HCS.out]; kernel_rfl) HCO.out ?_; rw [World.setRow_alloc_new]))
  clear HBZ
  obtain ⟨Z, hZ, hM⟩ := HST1.out
  have HZ := Lib.hid hZ
  have M := Lib.hid (hM CZ)
  clear hM hZ HST1
  obtain ⟨q, hq⟩ : ∃ q, q = w1.heap.size := ⟨_, rfl⟩
  rw [← hq] at M ⊢
  clear hq
  generalize w1.alloc (.cells CZ 93) = w2 at *
  rw [HCZ.out] at M
  clear HCZ HCS HCO
  have HQL := Lib.hid (show w.heap.size + 1 + 1 < q from M.out.q3)
  obtain ⟨ra, rn, rc, h5, hin, hob⟩ := M.out.rd
  have H5 := Lib.hid h5
  have HIN := Lib.hid hin
  have HOB := Lib.hid hob
  clear h5 hin hob
  go_upto_region 3 with (first
    | (refine wpList_load_row rfl 152 (.tmp 1) rfl w.heap.size rfl 152 _ (0, 0) _ H5.out Tryz.underlying152 rfl (by kernel_rfl) ?_)
    | (go_at_call 158; (with_reducible refine (HC1.out _ w2 HIN.out).mono ?_); rintro e wc2 ⟨vx, rfl, hx, ho, hb⟩; obtain ⟨ax, cx, rfl, -⟩ := id hx; have HX := Lib.hid hx; have HO := Lib.hid (ho.trans HOB.out); replace M := Lib.hid (M.out.call hb); obtain ⟨_, _, _, h5, -⟩ := M.out.rd; replace H5 := Lib.hid h5; clear hx ho h5; clear hb)
    | (refine wpList_store_row rfl 152 (.tmp 1) (.tmp 9) rfl w.heap.size (rdC (.slice ax s1.1.length cx) (numE s1.2)) rfl rfl 152 _ H5.out (by kernel_rfl) (by rfl) (rd_one _ _ _ _) ?_; go_loud (clear H5; replace M := Lib.hid (M.out.read (s' := s1) HX.out HO.out HEs1.out); generalize wc2.setRow w.heap.size (rdC (.slice ax s1.1.length cx) (numE s1.2)) = wb2 at *; have k0 : wb2.cell? ⟨q, 0, none⟩ = some (.int .i64 0) := voD_c0 M.out.at_; have k1 : wb2.frozen? ⟨q, 0, none⟩ = false := frozen_of_row _ _ _ _ _ M.out.at_)))
  clear k0 k1
  replace M := Lib.hid (M.out.put (Only.setCell wb2 ⟨q, 0, none⟩ (.int .i64 KI)) (voD_s0 M.out.at_))
  generalize wb2.setCell ⟨q, 0, none⟩ (.int .i64 KI) = w3 at *
  clear HX HO HIN HOB
  obtain ⟨ra, rn, rc, h5, hin, hob⟩ := M.out.rd
  have H5 := Lib.hid h5
  have HIN := Lib.hid hin
  have HOB := Lib.hid hob
  clear h5 hin hob
  go_upto_region 4 with (first
    | (refine wpList_load_row rfl 152 (.tmp 1) rfl w.heap.size rfl 152 _ (0, 0) _ H5.out Tryz.underlying152 rfl (by kernel_rfl) ?_)
    | (go_at_call 158; (with_reducible refine (HC2.out _ w3 HIN.out).mono ?_); rintro e wc3 ⟨vx, rfl, hx, ho, hb⟩; obtain ⟨ax, cx, rfl, -⟩ := id hx; have HX := Lib.hid hx; have HO := Lib.hid (ho.trans HOB.out); replace M := Lib.hid (M.out.call hb); obtain ⟨_, _, _, h5, -⟩ := M.out.rd; replace H5 := Lib.hid h5; clear hx ho h5; clear hb)
    | (refine wpList_store_row rfl 152 (.tmp 1) (.tmp 15) rfl w.heap.size (rdC (.slice ax s2.1.length cx) (numE s2.2)) rfl rfl 152 _ H5.out (by kernel_rfl) (by rfl) (rd_one _ _ _ _) ?_; go_loud (clear H5; replace M := Lib.hid (M.out.read (s' := s2) HX.out HO.out HEs2.out); generalize wc3.setRow w.heap.size (rdC (.slice ax s2.1.length cx) (numE s2.2)) = wb3 at *; have k0 : wb3.cell? ⟨q, 1, none⟩ = some (.int .i64 0) := voD_c1 M.out.at_; have k1 : wb3.frozen? ⟨q, 1, none⟩ = false := frozen_of_row _ _ _ _ _ M.out.at_)))
  clear k0 k1
  replace M := Lib.hid (M.out.put (Only.setCell wb3 ⟨q, 1, none⟩ (.int .i64 HT)) (voD_s1 M.out.at_))
  generalize wb3.setCell ⟨q, 1, none⟩ (.int .i64 HT) = w4 at *
  clear HX HO HIN HOB
  obtain ⟨ra, rn, rc, h5, hin, hob⟩ := M.out.rd
  have H5 := Lib.hid h5
  have HIN := Lib.hid hin
  have HOB := Lib.hid hob
  clear h5 hin hob
  go_upto_region 5 with (first
    | (refine wpList_load_row rfl 152 (.tmp 1) rfl w.heap.size rfl 152 _ (0, 0) _ H5.out Tryz.underlying152 rfl (by kernel_rfl) ?_)
    | (go_at_call 158; (with_reducible refine (HC3.out _ w4 HIN.out).mono ?_); rintro e wc4 ⟨vx, rfl, hx, ho, hb⟩; obtain ⟨ax, cx, rfl, -⟩ := id hx; have HX := Lib.hid hx; have HO := Lib.hid (ho.trans HOB.out); replace M := Lib.hid (M.out.call hb); obtain ⟨_, _, _, h5, -⟩ := M.out.rd; replace H5 := Lib.hid h5; clear hx ho h5; clear hb)
    | (refine wpList_store_row rfl 152 (.tmp 1) (.tmp 21) rfl w.heap.size (rdC (.slice ax s3.1.length cx) (numE s3.2)) rfl rfl 152 _ H5.out (by kernel_rfl) (by rfl) (rd_one _ _ _ _) ?_; go_loud (clear H5; replace M := Lib.hid (M.out.read (s' := s3) HX.out HO.out HEs3.out); generalize wc4.setRow w.heap.size (rdC (.slice ax s3.1.length cx) (numE s3.2)) = wb4 at *; have k0 : wb4.cell? ⟨q, 2, none⟩ = some (.int .i64 0) := voD_c2 M.out.at_; have k1 : wb4.frozen? ⟨q, 2, none⟩ = false := frozen_of_row _ _ _ _ _ M.out.at_)))
  clear k0 k1
  replace M := Lib.hid (M.out.put (Only.setCell wb4 ⟨q, 2, none⟩ (.int .i64 RD)) (voD_s2 M.out.at_))
  generalize wb4.setCell ⟨q, 2, none⟩ (.int .i64 RD) = w5 at *
  clear HX HO HIN HOB
  obtain ⟨ra, rn, rc, h5, hin, hob⟩ := M.out.rd
  have H5 := Lib.hid h5
  have HIN := Lib.hid hin
  have HOB := Lib.hid hob
  clear h5 hin hob
  go_upto_region 6 with (first
    | (refine wpList_load_row rfl 152 (.tmp 1) rfl w.heap.size rfl 152 _ (0, 0) _ H5.out Tryz.underlying152 rfl (by kernel_rfl) ?_)
    | (go_at_call 157; (with_reducible refine (HC4.out _ w5 HIN.out).mono ?_); rintro e wc5 ⟨vx, rfl, hx, ho, hb⟩; obtain ⟨ax, cx, rfl, -⟩ := id hx; have HX := Lib.hid hx; have HO := Lib.hid (ho.trans HOB.out); replace M := Lib.hid (M.out.call hb); obtain ⟨_, _, _, h5, -⟩ := M.out.rd; replace H5 := Lib.hid h5; clear hx ho h5; clear hb)
    | (refine wpList_store_row rfl 152 (.tmp 1) (.tmp 27) rfl w.heap.size (rdC (.slice ax s4.1.length cx) (numE s4.2)) rfl rfl 152 _ H5.out (by kernel_rfl) (by rfl) (rd_one _ _ _ _) ?_; go_loud (clear H5; replace M := Lib.hid (M.out.read (s' := s4) HX.out HO.out HEs4.out); generalize wc5.setRow w.heap.size (rdC (.slice ax s4.1.length cx) (numE s4.2)) = wb5 at *))
    | (refine wpList_store_mid rfl 65 (.tmp 29) (.tmp 28) rfl q 3 (rowOf .u8 32 BK) rfl rfl (by rw [rowOf_size]; exact voD_t3 M.out.at_) (by rw [rowOf_size]; kernel_rfl) (rowOf_one _ _ _) ?_))
  replace M := Lib.hid (M.out.put (only_cells11 q (rowOf .u8 32 BK).toList 3 wb5) (voD_s3 M.out.at_))
  generalize wb5.setCells q 3 (rowOf .u8 32 BK).toList = w6 at *
  clear HX HO HIN HOB
  obtain ⟨ra, rn, rc, h5, hin, hob⟩ := M.out.rd
  have H5 := Lib.hid h5
  have HIN := Lib.hid hin
  have HOB := Lib.hid hob
  clear h5 hin hob
  go_upto_region 7 with (first
    | (refine wpList_load_row rfl 152 (.tmp 1) rfl w.heap.size rfl 152 _ (0, 0) _ H5.out Tryz.underlying152 rfl (by kernel_rfl) ?_)
    | (go_at_call 158; (with_reducible refine (HC5.out _ w6 HIN.out).mono ?_); rintro e wc6 ⟨vx, rfl, hx, ho, hb⟩; obtain ⟨ax, cx, rfl, -⟩ := id hx; have HX := Lib.hid hx; have HO := Lib.hid (ho.trans HOB.out); replace M := Lib.hid (M.out.call hb); obtain ⟨_, _, _, h5, -⟩ := M.out.rd; replace H5 := Lib.hid h5; clear hx ho h5; clear hb)
    | (refine wpList_store_row rfl 152 (.tmp 1) (.tmp 33) rfl w.heap.size (rdC (.slice ax s5.1.length cx) (numE s5.2)) rfl rfl 152 _ H5.out (by kernel_rfl) (by rfl) (rd_one _ _ _ _) ?_; go_loud (clear H5; replace M := Lib.hid (M.out.read (s' := s5) HX.out HO.out HEs5.out); generalize wc6.setRow w.heap.size (rdC (.slice ax s5.1.length cx) (numE s5.2)) = wb6 at *; have k0 : wb6.cell? ⟨q, 35, none⟩ = some (.int .i64 0) := voD_c4 M.out.at_; have k1 : wb6.frozen? ⟨q, 35, none⟩ = false := frozen_of_row _ _ _ _ _ M.out.at_)))
  clear k0 k1
  replace M := Lib.hid (M.out.put (Only.setCell wb6 ⟨q, 35, none⟩ (.int .i64 VL)) (voD_s4 M.out.at_))
  generalize wb6.setCell ⟨q, 35, none⟩ (.int .i64 VL) = w7 at *
  clear HX HO HIN HOB
  obtain ⟨ra, rn, rc, h5, hin, hob⟩ := M.out.rd
  have H5 := Lib.hid h5
  have HIN := Lib.hid hin
  have HOB := Lib.hid hob
  clear h5 hin hob
  have HQI := Lib.hid (show q < w7.heap.size from bkT_lt M.out.at_)
  go_upto_region 8 with (first
    | (refine wpList_load_row rfl 152 (.tmp 1) rfl w.heap.size rfl 152 _ (0, 0) _ H5.out Tryz.underlying152 rfl (by kernel_rfl) ?_)
    | (go_at_call 156; (with_reducible refine (HC6.out _ w7 HIN.out).mono ?_); rintro e wc7 ⟨vx, vb, rfl, hx, hvb, ho, hnb, hb⟩; obtain ⟨ax, cx, rfl, -⟩ := id hx; have HX := Lib.hid hx; have HO := Lib.hid (ho.trans HOB.out); replace M := Lib.hid (M.out.call hb); obtain ⟨_, _, _, h5, -⟩ := M.out.rd; replace H5 := Lib.hid h5; clear hx ho h5; have HVB := Lib.hid hvb; have HNB := Lib.hid (show ∀ j, vb.ownBlock = some j → w7.heap.size ≤ j ∧ j < wc7.heap.size from hnb); obtain ⟨ba, bc, rfl, -⟩ := id hvb; clear hvb hnb; clear hb)
    | (refine wpList_store_row rfl 152 (.tmp 1) (.tmp 39) rfl w.heap.size (rdC (.slice ax s6.1.length cx) (numE s6.2)) rfl rfl 152 _ H5.out (by kernel_rfl) (by rfl) (rd_one _ _ _ _) ?_; go_loud (clear H5; replace HVB := Lib.hid (M.out.row (rdC (.slice ax s6.1.length cx) (numE s6.2)) HVB.out); replace HNB := Lib.hid (show ∀ j, (Value.slice ba SG.length bc).ownBlock = some j → w7.heap.size ≤ j ∧ j < (wc7.setRow w.heap.size (rdC (.slice ax s6.1.length cx) (numE s6.2))).heap.size from fun j hj => ⟨(HNB.out j hj).1, Nat.lt_of_lt_of_le (HNB.out j hj).2 (only_setRow11 wc7 w.heap.size (rdC (.slice ax s6.1.length cx) (numE s6.2))).size⟩); replace M := Lib.hid (M.out.read (s' := s6) HX.out HO.out HEs6.out); generalize wc7.setRow w.heap.size (rdC (.slice ax s6.1.length cx) (numE s6.2)) = wb7 at *; have k0 : wb7.cell? ⟨q, 36, none⟩ = some (.slice none 0 0) := voD_c5 M.out.at_; have k1 : wb7.frozen? ⟨q, 36, none⟩ = false := frozen_of_row _ _ _ _ _ M.out.at_)))
  clear k0 k1
  replace M := Lib.hid (M.out.put (Only.setCell wb7 ⟨q, 36, none⟩ (.slice ba SG.length bc)) (voD_s5 M.out.at_))
  replace HVB := Lib.hid (HVB.out.only11 (Only.setCell wb7 ⟨q, 36, none⟩ (.slice ba SG.length bc)) (fun _ k hk => by have := (HNB.out k hk).1; have := HQI.out; show k ≠ q; omega))
  replace HNB := Lib.hid (show ∀ j, (Value.slice ba SG.length bc).ownBlock = some j → w7.heap.size ≤ j ∧ j < (wb7.setCell ⟨q, 36, none⟩ (.slice ba SG.length bc)).heap.size from fun j hj => ⟨(HNB.out j hj).1, Nat.lt_of_lt_of_le (HNB.out j hj).2 (Only.setCell wb7 ⟨q, 36, none⟩ (.slice ba SG.length bc)).size⟩)
  generalize wb7.setCell ⟨q, 36, none⟩ (.slice ba SG.length bc) = w8 at *
  clear HX HO HIN HOB
  obtain ⟨CV, hCV⟩ : ∃ x, x = voD KI HT RD BK VL (.slice ba SG.length bc) := ⟨_, rfl⟩
  have HCV := Lib.hid hCV
  have HVS := Lib.hid ((congrArg Array.size hCV).trans (voD_size _ _ _ _ _ _))
  have HVO := Lib.hid (show CV.all (·.oneCell') = true from by rw [hCV]; exact voD_one _ _ _ _ _ _ _ _)
  rw [← hCV] at M
  clear hCV
  obtain ⟨ra, rn, rc, h5, hin, hob⟩ := M.out.rd
  have HOB := Lib.hid hob
  have H5 := Lib.hid h5
  have HIN := Lib.hid hin
  clear h5 hin hob
  refine wp_region_T (fun W => W.heap[w.heap.size]? = some (.cells (rdC (.slice ra rn rc) (numE s6.2)) 152 (0, 0)) ∧ W.heap[q]? = some (.cells CV 93 (0, 0))) [0, 1, 2, 3] (by kernel_rfl) ?_
  have hbd : Below w8.heap.size w8 w8.drew := (Below.refl _ _).drew
  replace M := Lib.hid (M.out.call hbd)
  replace H5 := Lib.hid ((hbd.block _ (bkT_lt H5.out)).trans H5.out)
  replace HIN := Lib.hid (HIN.out.below hbd)
  replace HVB := Lib.hid (HVB.out.below hbd)
  have HSZ := Lib.hid (show w8.heap.size ≤ w8.drew.heap.size from hbd.size)
  clear hbd
  generalize w8.drew = wd at *
  have HS := Lib.hid (show wd.heap[w.heap.size]? = some (.cells (rdC (.slice ra rn rc) (numE s6.2)) 152 (0, 0)) ∧ wd.heap[q]? = some (.cells CV 93 (0, 0)) from ⟨H5.out, M.out.at_⟩)
  have HF := Lib.hid (M.out.fin H5.out)
  refine anyT_take [] (i := 0) (v := .agg (rdC (.slice ra rn rc) (numE s6.2))) rfl (by kernel_rfl) (by kernel_rfl) (by kernel_rfl) (fun _ _ _ h => h) (by kernel_rfl) (rdagg_yields (by rfl) 152 (.tmp 1) rfl w.heap.size rfl _ _ (fun _ h => h.1) Tryz.underlying152 rfl (by kernel_rfl)) HS.out ?_
  try simp only [List.getElem_toArray, List.getElem_cons_succ, List.getElem_cons_zero, Act.put, List.setIfInBounds_toArray, List.set_cons_zero, List.set_cons_succ]
  refine anyT_take [] (i := 1) (v := .agg CV) rfl (by kernel_rfl) (by kernel_rfl) (by kernel_rfl) (fun _ _ _ h => h) (by kernel_rfl) (rdagg_yields (by rfl) 93 (.tmp 4) rfl q rfl _ _ (fun _ h => h.2) Tryz.underlying93 rfl (by rw [HVS.out]; kernel_rfl)) HS.out ?_
  try simp only [List.getElem_toArray, List.getElem_cons_succ, List.getElem_cons_zero, Act.put, List.setIfInBounds_toArray, List.set_cons_zero, List.set_cons_succ]
  refine anyT_one (i := 2) (by kernel_rfl) rfl (fun K hK => ?_)
  rw [if_pos (by rfl)]
  try simp only [List.getElem_toArray, List.getElem_cons_succ, List.getElem_cons_zero]
  (refine wp_store_row 152 (.tmp 2) (.tmp 42) rfl (w.heap.size + 1) (rdC (.slice ra rn rc) (numE s6.2)) rfl rfl 152 _ HF.out.r0 (by kernel_rfl) (by rfl) (rd_one _ _ _ _) ?_)
  refine hK _ _ (fun _ => HF.out.s1) ?_
  clear hK K
  try simp only [List.getElem_toArray, List.getElem_cons_succ, List.getElem_cons_zero, Act.put, List.setIfInBounds_toArray, List.set_cons_zero, List.set_cons_succ]
  refine anyT_one (i := 3) (by kernel_rfl) rfl (fun K hK => ?_)
  rw [if_pos (by rfl)]
  try simp only [List.getElem_toArray, List.getElem_cons_succ, List.getElem_cons_zero]
  (refine wp_store_row 93 (.tmp 3) (.tmp 43) rfl (w.heap.size + 1 + 1) CV rfl rfl 93 _ HF.out.r1 (by rw [HVS.out]; kernel_rfl) (by rw [HVS.out, HZ.out]) HVO.out ?_)
  refine hK _ _ (fun _ => HF.out.s2) ?_
  clear hK K
  try simp only [List.getElem_toArray, List.getElem_cons_succ, List.getElem_cons_zero, Act.put, List.setIfInBounds_toArray, List.set_cons_zero, List.set_cons_succ]
  refine anyT_done (by kernel_rfl) ?_ _
  have HL := Lib.hid HF.out.end_
  have HRA := Lib.hid HF.out.a
  have HRB := Lib.hid HF.out.b
  generalize (World.setRow _ (w.heap.size + 1 + 1) CV) = wz at *
  go_wp2_with (fail)
  refine bodyPost_ret (results_cell2_row rfl _ _ (w.heap.size + 1) (w.heap.size + 1 + 1) 152 93 _ _ (0, 0) (0, 0) _ _ rfl HRA.out Tryz.underlying152 rfl (by kernel_rfl) rfl HRB.out Tryz.underlying93 rfl (by rw [HVS.out]; kernel_rfl)) rfl ?_
  have hQL := HQL.out
  have hQI := HQI.out
  have hend := HL.out
  rw [HR.out, HG.out]
  refine ⟨_, .slice ba SG.length bc, by rw [HV.out, HCV.out], bytes_blk11 HIN.out (fun hn k hk => hend.2.2 k (by have := M.out.obN hn k (HOB.out ▸ hk); omega) (by have := M.out.obN hn k (HOB.out ▸ hk); omega)), HOB.out, bytes_blk11 HVB.out (fun hn k hk => hend.2.2 k (by have := (HNB.out k hk).1; omega) (by have := (HNB.out k hk).1; omega)), fun j hj => ⟨by have := (HNB.out j hj).1; omega, by rw [hend.2.1]; have := (HNB.out j hj).2; have := HSZ.out; omega⟩, hend.1⟩
end Go.Proofs.YtanekacpalpcbaaGreatDoor

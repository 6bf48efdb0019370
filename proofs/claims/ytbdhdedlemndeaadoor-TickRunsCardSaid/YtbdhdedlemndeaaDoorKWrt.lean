/-
  The document's Write to the registers from 4 (genkwrt.py writes this text).
-/
import Derived.Test.YtbdhdedlemndeaaDoorKWr0
namespace Go.Proofs.YtbdhdedlemndeaaDoor
open Go.RowKit Go.Shelf
set_option maxRecDepth 1000000
set_option maxHeartbeats 4000000
set_option linter.unusedVariables false
set_option linter.unusedSimpArgs false

theorem rwrite_4 {f : Nat → Nat} (v : Nat) (w : World) (hv : v < 256) : Calls Tryd.prog 15 #[.agg (docC f), .int .u8 4, .int .u8 (v : Nat)] w fun e w' => e = .returned (.agg (docC (upd f 17 v))) ∧ Below w.heap.size w w' := by
  obtain ⟨W, hW⟩ : ∃ W, (w.alloc (.cells (docC f) 30)).alloc (.cells docZ 30) = W := ⟨_, rfl⟩
  have h0 := stg_start w f
  obtain ⟨T, hTe⟩ : ∃ T, w.heap.size = T := ⟨_, rfl⟩
  rw [hW, hTe] at h0
  unfold docZ at hW
  have cx := h0.t.cell 20
  rw [show (docC f)[20]? = some (.int .u8 (f 17 : Nat)) from rfl] at cx
  have yx := h0.t.free 20
  have h1 := (h0.put 20 (.int .u8 (v : Nat))).as (show (docC f).setIfInBounds 20 (.int .u8 (v : Nat)) = docC (upd f 17 v) by kernel_rfl)
  obtain ⟨hld, hst, hfin, hB3⟩ := h1.back
  replace hld := Lib.hid hld
  replace hst := Lib.hid hst
  replace hfin := Lib.hid hfin
  replace hB3 := Lib.hid hB3
  replace hTe := Lib.hid hTe
  replace hW := Lib.hid hW
  clear h0 h1
  generalize docC (upd f 17 v) = dn at *
  generalize docC f = dc at *
  generalize f 17 = X at *
  go_enter Tryd.func15, Tryd.ntmps15
  go_upto_region 18 with (fail)
  rw [hW.out, hTe.out]
  go_wp2_with (first | (refine wpList_loadVar rfl 30 _ rfl _ _ rfl hld.out ?_) | (refine wpList_storeVar rfl 30 _ _ rfl _ _ rfl rfl hst.out ?_))
  exact bodyPost_ret (results_cell_row (fn := Tryd.f15) (p := 6) (ty := 30) rfl _ _ _ _ _ (0, 0) _ rfl hfin.out Tryd.underlying30 rfl (by kernel_rfl)) rfl ⟨rfl, by rw [hTe.out]; exact hB3.out⟩
theorem rwrite_5 {f : Nat → Nat} (v : Nat) (w : World) (hv : v < 256) : Calls Tryd.prog 15 #[.agg (docC f), .int .u8 5, .int .u8 (v : Nat)] w fun e w' => e = .returned (.agg (docC (upd f 18 v))) ∧ Below w.heap.size w w' := by
  obtain ⟨W, hW⟩ : ∃ W, (w.alloc (.cells (docC f) 30)).alloc (.cells docZ 30) = W := ⟨_, rfl⟩
  have h0 := stg_start w f
  obtain ⟨T, hTe⟩ : ∃ T, w.heap.size = T := ⟨_, rfl⟩
  rw [hW, hTe] at h0
  unfold docZ at hW
  have cx := h0.t.cell 21
  rw [show (docC f)[21]? = some (.int .u8 (f 18 : Nat)) from rfl] at cx
  have yx := h0.t.free 21
  have h1 := (h0.put 21 (.int .u8 (v : Nat))).as (show (docC f).setIfInBounds 21 (.int .u8 (v : Nat)) = docC (upd f 18 v) by kernel_rfl)
  obtain ⟨hld, hst, hfin, hB3⟩ := h1.back
  replace hld := Lib.hid hld
  replace hst := Lib.hid hst
  replace hfin := Lib.hid hfin
  replace hB3 := Lib.hid hB3
  replace hTe := Lib.hid hTe
  replace hW := Lib.hid hW
  clear h0 h1
  generalize docC (upd f 18 v) = dn at *
  generalize docC f = dc at *
  generalize f 18 = X at *
  go_enter Tryd.func15, Tryd.ntmps15
  go_upto_region 18 with (fail)
  rw [hW.out, hTe.out]
  go_wp2_with (first | (refine wpList_loadVar rfl 30 _ rfl _ _ rfl hld.out ?_) | (refine wpList_storeVar rfl 30 _ _ rfl _ _ rfl rfl hst.out ?_))
  exact bodyPost_ret (results_cell_row (fn := Tryd.f15) (p := 6) (ty := 30) rfl _ _ _ _ _ (0, 0) _ rfl hfin.out Tryd.underlying30 rfl (by kernel_rfl)) rfl ⟨rfl, by rw [hTe.out]; exact hB3.out⟩
theorem rwrite_6 {f : Nat → Nat} (v : Nat) (w : World) (hv : v < 256) : Calls Tryd.prog 15 #[.agg (docC f), .int .u8 6, .int .u8 (v : Nat)] w fun e w' => e = .returned (.agg (docC (upd f 19 v))) ∧ Below w.heap.size w w' := by
  obtain ⟨W, hW⟩ : ∃ W, (w.alloc (.cells (docC f) 30)).alloc (.cells docZ 30) = W := ⟨_, rfl⟩
  have h0 := stg_start w f
  obtain ⟨T, hTe⟩ : ∃ T, w.heap.size = T := ⟨_, rfl⟩
  rw [hW, hTe] at h0
  unfold docZ at hW
  have cx := h0.t.cell 22
  rw [show (docC f)[22]? = some (.int .u8 (f 19 : Nat)) from rfl] at cx
  have yx := h0.t.free 22
  have h1 := (h0.put 22 (.int .u8 (v : Nat))).as (show (docC f).setIfInBounds 22 (.int .u8 (v : Nat)) = docC (upd f 19 v) by kernel_rfl)
  obtain ⟨hld, hst, hfin, hB3⟩ := h1.back
  replace hld := Lib.hid hld
  replace hst := Lib.hid hst
  replace hfin := Lib.hid hfin
  replace hB3 := Lib.hid hB3
  replace hTe := Lib.hid hTe
  replace hW := Lib.hid hW
  clear h0 h1
  generalize docC (upd f 19 v) = dn at *
  generalize docC f = dc at *
  generalize f 19 = X at *
  go_enter Tryd.func15, Tryd.ntmps15
  go_upto_region 18 with (fail)
  rw [hW.out, hTe.out]
  go_wp2_with (first | (refine wpList_loadVar rfl 30 _ rfl _ _ rfl hld.out ?_) | (refine wpList_storeVar rfl 30 _ _ rfl _ _ rfl rfl hst.out ?_))
  exact bodyPost_ret (results_cell_row (fn := Tryd.f15) (p := 6) (ty := 30) rfl _ _ _ _ _ (0, 0) _ rfl hfin.out Tryd.underlying30 rfl (by kernel_rfl)) rfl ⟨rfl, by rw [hTe.out]; exact hB3.out⟩
theorem rwrite_7 {f : Nat → Nat} (v : Nat) (w : World) (hv : v < 256) : Calls Tryd.prog 15 #[.agg (docC f), .int .u8 7, .int .u8 (v : Nat)] w fun e w' => e = .returned (.agg (docC (upd f 20 v))) ∧ Below w.heap.size w w' := by
  obtain ⟨W, hW⟩ : ∃ W, (w.alloc (.cells (docC f) 30)).alloc (.cells docZ 30) = W := ⟨_, rfl⟩
  have h0 := stg_start w f
  obtain ⟨T, hTe⟩ : ∃ T, w.heap.size = T := ⟨_, rfl⟩
  rw [hW, hTe] at h0
  unfold docZ at hW
  have cx := h0.t.cell 23
  rw [show (docC f)[23]? = some (.int .u8 (f 20 : Nat)) from rfl] at cx
  have yx := h0.t.free 23
  have h1 := (h0.put 23 (.int .u8 (v : Nat))).as (show (docC f).setIfInBounds 23 (.int .u8 (v : Nat)) = docC (upd f 20 v) by kernel_rfl)
  obtain ⟨hld, hst, hfin, hB3⟩ := h1.back
  replace hld := Lib.hid hld
  replace hst := Lib.hid hst
  replace hfin := Lib.hid hfin
  replace hB3 := Lib.hid hB3
  replace hTe := Lib.hid hTe
  replace hW := Lib.hid hW
  clear h0 h1
  generalize docC (upd f 20 v) = dn at *
  generalize docC f = dc at *
  generalize f 20 = X at *
  go_enter Tryd.func15, Tryd.ntmps15
  go_upto_region 18 with (fail)
  rw [hW.out, hTe.out]
  go_wp2_with (first | (refine wpList_loadVar rfl 30 _ rfl _ _ rfl hld.out ?_) | (refine wpList_storeVar rfl 30 _ _ rfl _ _ rfl rfl hst.out ?_))
  exact bodyPost_ret (results_cell_row (fn := Tryd.f15) (p := 6) (ty := 30) rfl _ _ _ _ _ (0, 0) _ rfl hfin.out Tryd.underlying30 rfl (by kernel_rfl)) rfl ⟨rfl, by rw [hTe.out]; exact hB3.out⟩
theorem rwrite_8 {f : Nat → Nat} (v : Nat) (w : World) (hv : v < 256) : Calls Tryd.prog 15 #[.agg (docC f), .int .u8 8, .int .u8 (v : Nat)] w fun e w' => e = .returned (.agg (docC (upd f 21 v))) ∧ Below w.heap.size w w' := by
  obtain ⟨W, hW⟩ : ∃ W, (w.alloc (.cells (docC f) 30)).alloc (.cells docZ 30) = W := ⟨_, rfl⟩
  have h0 := stg_start w f
  obtain ⟨T, hTe⟩ : ∃ T, w.heap.size = T := ⟨_, rfl⟩
  rw [hW, hTe] at h0
  unfold docZ at hW
  have cx := h0.t.cell 24
  rw [show (docC f)[24]? = some (.int .u8 (f 21 : Nat)) from rfl] at cx
  have yx := h0.t.free 24
  have h1 := (h0.put 24 (.int .u8 (v : Nat))).as (show (docC f).setIfInBounds 24 (.int .u8 (v : Nat)) = docC (upd f 21 v) by kernel_rfl)
  obtain ⟨hld, hst, hfin, hB3⟩ := h1.back
  replace hld := Lib.hid hld
  replace hst := Lib.hid hst
  replace hfin := Lib.hid hfin
  replace hB3 := Lib.hid hB3
  replace hTe := Lib.hid hTe
  replace hW := Lib.hid hW
  clear h0 h1
  generalize docC (upd f 21 v) = dn at *
  generalize docC f = dc at *
  generalize f 21 = X at *
  go_enter Tryd.func15, Tryd.ntmps15
  go_upto_region 20 with (fail)
  rw [hW.out, hTe.out]
  go_wp2_with (first | (refine wpList_loadVar rfl 30 _ rfl _ _ rfl hld.out ?_) | (refine wpList_storeVar rfl 30 _ _ rfl _ _ rfl rfl hst.out ?_))
  exact bodyPost_ret (results_cell_row (fn := Tryd.f15) (p := 6) (ty := 30) rfl _ _ _ _ _ (0, 0) _ rfl hfin.out Tryd.underlying30 rfl (by kernel_rfl)) rfl ⟨rfl, by rw [hTe.out]; exact hB3.out⟩
theorem rwrite_9 {f : Nat → Nat} (v : Nat) (w : World) (hv : v < 256) : Calls Tryd.prog 15 #[.agg (docC f), .int .u8 9, .int .u8 (v : Nat)] w fun e w' => e = .returned (.agg (docC (upd f 22 v))) ∧ Below w.heap.size w w' := by
  obtain ⟨W, hW⟩ : ∃ W, (w.alloc (.cells (docC f) 30)).alloc (.cells docZ 30) = W := ⟨_, rfl⟩
  have h0 := stg_start w f
  obtain ⟨T, hTe⟩ : ∃ T, w.heap.size = T := ⟨_, rfl⟩
  rw [hW, hTe] at h0
  unfold docZ at hW
  have cx := h0.t.cell 25
  rw [show (docC f)[25]? = some (.int .u8 (f 22 : Nat)) from rfl] at cx
  have yx := h0.t.free 25
  have h1 := (h0.put 25 (.int .u8 (v : Nat))).as (show (docC f).setIfInBounds 25 (.int .u8 (v : Nat)) = docC (upd f 22 v) by kernel_rfl)
  obtain ⟨hld, hst, hfin, hB3⟩ := h1.back
  replace hld := Lib.hid hld
  replace hst := Lib.hid hst
  replace hfin := Lib.hid hfin
  replace hB3 := Lib.hid hB3
  replace hTe := Lib.hid hTe
  replace hW := Lib.hid hW
  clear h0 h1
  generalize docC (upd f 22 v) = dn at *
  generalize docC f = dc at *
  generalize f 22 = X at *
  go_enter Tryd.func15, Tryd.ntmps15
  go_upto_region 20 with (fail)
  rw [hW.out, hTe.out]
  go_wp2_with (first | (refine wpList_loadVar rfl 30 _ rfl _ _ rfl hld.out ?_) | (refine wpList_storeVar rfl 30 _ _ rfl _ _ rfl rfl hst.out ?_))
  exact bodyPost_ret (results_cell_row (fn := Tryd.f15) (p := 6) (ty := 30) rfl _ _ _ _ _ (0, 0) _ rfl hfin.out Tryd.underlying30 rfl (by kernel_rfl)) rfl ⟨rfl, by rw [hTe.out]; exact hB3.out⟩
theorem rwrite_10 {f : Nat → Nat} (v : Nat) (w : World) (hv : v < 256) : Calls Tryd.prog 15 #[.agg (docC f), .int .u8 10, .int .u8 (v : Nat)] w fun e w' => e = .returned (.agg (docC (upd f 1 v))) ∧ Below w.heap.size w w' := by
  obtain ⟨W, hW⟩ : ∃ W, (w.alloc (.cells (docC f) 30)).alloc (.cells docZ 30) = W := ⟨_, rfl⟩
  have h0 := stg_start w f
  obtain ⟨T, hTe⟩ : ∃ T, w.heap.size = T := ⟨_, rfl⟩
  rw [hW, hTe] at h0
  unfold docZ at hW
  have cx := h0.t.cell 4
  rw [show (docC f)[4]? = some (.int .i64 (f 1 : Nat)) from rfl] at cx
  have yx := h0.t.free 4
  have h1 := (h0.put 4 (.int .i64 (v : Nat))).as (show (docC f).setIfInBounds 4 (.int .i64 (v : Nat)) = docC (upd f 1 v) by kernel_rfl)
  obtain ⟨hld, hst, hfin, hB3⟩ := h1.back
  replace hld := Lib.hid hld
  replace hst := Lib.hid hst
  replace hfin := Lib.hid hfin
  replace hB3 := Lib.hid hB3
  replace hTe := Lib.hid hTe
  replace hW := Lib.hid hW
  have ww : IntKind.i64.wrap (v : Int) = (v : Int) := by simp only [IntKind.wrap_i64]; omega
  clear h0 h1
  generalize docC (upd f 1 v) = dn at *
  generalize docC f = dc at *
  generalize f 1 = X at *
  go_enter Tryd.func15, Tryd.ntmps15
  go_upto_region 22 with (fail)
  rw [hW.out, hTe.out]
  go_wp2_with (first | (refine wpList_loadVar rfl 30 _ rfl _ _ rfl hld.out ?_) | (refine wpList_storeVar rfl 30 _ _ rfl _ _ rfl rfl hst.out ?_))
  exact bodyPost_ret (results_cell_row (fn := Tryd.f15) (p := 6) (ty := 30) rfl _ _ _ _ _ (0, 0) _ rfl hfin.out Tryd.underlying30 rfl (by kernel_rfl)) rfl ⟨rfl, by rw [hTe.out]; exact hB3.out⟩
theorem rwrite_11 {f : Nat → Nat} (v : Nat) (w : World) (hv : v < 256) : Calls Tryd.prog 15 #[.agg (docC f), .int .u8 11, .int .u8 (v : Nat)] w fun e w' => e = .returned (.agg (docC (upd f 5 v))) ∧ Below w.heap.size w w' := by
  obtain ⟨W, hW⟩ : ∃ W, (w.alloc (.cells (docC f) 30)).alloc (.cells docZ 30) = W := ⟨_, rfl⟩
  have h0 := stg_start w f
  obtain ⟨T, hTe⟩ : ∃ T, w.heap.size = T := ⟨_, rfl⟩
  rw [hW, hTe] at h0
  unfold docZ at hW
  have cx := h0.t.cell 5
  rw [show (docC f)[5]? = some (.int .i64 (f 5 : Nat)) from rfl] at cx
  have yx := h0.t.free 5
  have h1 := (h0.put 5 (.int .i64 (v : Nat))).as (show (docC f).setIfInBounds 5 (.int .i64 (v : Nat)) = docC (upd f 5 v) by kernel_rfl)
  obtain ⟨hld, hst, hfin, hB3⟩ := h1.back
  replace hld := Lib.hid hld
  replace hst := Lib.hid hst
  replace hfin := Lib.hid hfin
  replace hB3 := Lib.hid hB3
  replace hTe := Lib.hid hTe
  replace hW := Lib.hid hW
  have ww : IntKind.i64.wrap (v : Int) = (v : Int) := by simp only [IntKind.wrap_i64]; omega
  clear h0 h1
  generalize docC (upd f 5 v) = dn at *
  generalize docC f = dc at *
  generalize f 5 = X at *
  go_enter Tryd.func15, Tryd.ntmps15
  go_upto_region 22 with (fail)
  rw [hW.out, hTe.out]
  go_wp2_with (first | (refine wpList_loadVar rfl 30 _ rfl _ _ rfl hld.out ?_) | (refine wpList_storeVar rfl 30 _ _ rfl _ _ rfl rfl hst.out ?_))
  exact bodyPost_ret (results_cell_row (fn := Tryd.f15) (p := 6) (ty := 30) rfl _ _ _ _ _ (0, 0) _ rfl hfin.out Tryd.underlying30 rfl (by kernel_rfl)) rfl ⟨rfl, by rw [hTe.out]; exact hB3.out⟩
theorem rwrite_12 {f : Nat → Nat} (v : Nat) (w : World) (hv : v < 256) : Calls Tryd.prog 15 #[.agg (docC f), .int .u8 12, .int .u8 (v : Nat)] w fun e w' => e = .returned (.agg (docC (upd f 9 v))) ∧ Below w.heap.size w w' := by
  obtain ⟨W, hW⟩ : ∃ W, (w.alloc (.cells (docC f) 30)).alloc (.cells docZ 30) = W := ⟨_, rfl⟩
  have h0 := stg_start w f
  obtain ⟨T, hTe⟩ : ∃ T, w.heap.size = T := ⟨_, rfl⟩
  rw [hW, hTe] at h0
  unfold docZ at hW
  have cx := h0.t.cell 6
  rw [show (docC f)[6]? = some (.int .i64 (f 9 : Nat)) from rfl] at cx
  have yx := h0.t.free 6
  have h1 := (h0.put 6 (.int .i64 (v : Nat))).as (show (docC f).setIfInBounds 6 (.int .i64 (v : Nat)) = docC (upd f 9 v) by kernel_rfl)
  obtain ⟨hld, hst, hfin, hB3⟩ := h1.back
  replace hld := Lib.hid hld
  replace hst := Lib.hid hst
  replace hfin := Lib.hid hfin
  replace hB3 := Lib.hid hB3
  replace hTe := Lib.hid hTe
  replace hW := Lib.hid hW
  have ww : IntKind.i64.wrap (v : Int) = (v : Int) := by simp only [IntKind.wrap_i64]; omega
  clear h0 h1
  generalize docC (upd f 9 v) = dn at *
  generalize docC f = dc at *
  generalize f 9 = X at *
  go_enter Tryd.func15, Tryd.ntmps15
  go_upto_region 22 with (fail)
  rw [hW.out, hTe.out]
  go_wp2_with (first | (refine wpList_loadVar rfl 30 _ rfl _ _ rfl hld.out ?_) | (refine wpList_storeVar rfl 30 _ _ rfl _ _ rfl rfl hst.out ?_))
  exact bodyPost_ret (results_cell_row (fn := Tryd.f15) (p := 6) (ty := 30) rfl _ _ _ _ _ (0, 0) _ rfl hfin.out Tryd.underlying30 rfl (by kernel_rfl)) rfl ⟨rfl, by rw [hTe.out]; exact hB3.out⟩
theorem rwrite_no {f : Nat → Nat} (r v : Nat) (w : World) (hr : r = 0 ∨ r = 2 ∨ r = 3 ∨ 12 < r) : Calls Tryd.prog 15 #[.agg (docC f), .int .u8 (r : Nat), .int .u8 (v : Nat)] w fun e w' => e = .returned (.agg (docC f)) ∧ Below w.heap.size w w' := by
  obtain ⟨W, hW⟩ : ∃ W, (w.alloc (.cells (docC f) 30)).alloc (.cells docZ 30) = W := ⟨_, rfl⟩
  have h0 := stg_start w f
  obtain ⟨T, hTe⟩ : ∃ T, w.heap.size = T := ⟨_, rfl⟩
  rw [hW, hTe] at h0
  unfold docZ at hW
  obtain ⟨hld, hst, hfin, hB3⟩ := h0.back
  replace hld := Lib.hid hld
  replace hst := Lib.hid hst
  replace hfin := Lib.hid hfin
  replace hB3 := Lib.hid hB3
  replace hTe := Lib.hid hTe
  replace hW := Lib.hid hW
  clear h0
  generalize docC f = dc at *
  rcases (show (r = 0 ∨ r = 2 ∨ r = 3) ∨ 12 < r by omega) with h | h
  · have hh := Lib.hid h
    have t1 : ((r : Int) == 1) = false := beq_eq_false_iff_ne.2 (by omega)
    have t8 : ((r : Int) == 8) = false := beq_eq_false_iff_ne.2 (by omega)
    have t9 : ((r : Int) == 9) = false := beq_eq_false_iff_ne.2 (by omega)
    have q1 : ¬ (4 : Int) ≤ (r : Int) := by omega
    have q2 : ¬ (10 : Int) ≤ (r : Int) := by omega
    clear hr h
    go_enter Tryd.func15, Tryd.ntmps15
    go_upto_region 23 with (fail)
    rw [hW.out, hTe.out]
    go_wp2_with (first | (refine wpList_loadVar rfl 30 _ rfl _ _ rfl hld.out ?_) | (refine wpList_storeVar rfl 30 _ _ rfl _ _ rfl rfl hst.out ?_))
    exact bodyPost_ret (results_cell_row (fn := Tryd.f15) (p := 6) (ty := 30) rfl _ _ _ _ _ (0, 0) _ rfl hfin.out Tryd.underlying30 rfl (by kernel_rfl)) rfl ⟨rfl, by rw [hTe.out]; exact hB3.out⟩
  · have hh := Lib.hid h
    have t1 : ((r : Int) == 1) = false := beq_eq_false_iff_ne.2 (by omega)
    have t8 : ((r : Int) == 8) = false := beq_eq_false_iff_ne.2 (by omega)
    have t9 : ((r : Int) == 9) = false := beq_eq_false_iff_ne.2 (by omega)
    have q1 : (4 : Int) ≤ (r : Int) := by omega
    have q2 : ¬ (r : Int) ≤ 7 := by omega
    have q3 : (10 : Int) ≤ (r : Int) := by omega
    have q4 : ¬ (r : Int) ≤ 12 := by omega
    clear hr h
    go_enter Tryd.func15, Tryd.ntmps15
    go_upto_region 23 with (fail)
    rw [hW.out, hTe.out]
    go_wp2_with (first | (refine wpList_loadVar rfl 30 _ rfl _ _ rfl hld.out ?_) | (refine wpList_storeVar rfl 30 _ _ rfl _ _ rfl rfl hst.out ?_))
    exact bodyPost_ret (results_cell_row (fn := Tryd.f15) (p := 6) (ty := 30) rfl _ _ _ _ _ (0, 0) _ rfl hfin.out Tryd.underlying30 rfl (by kernel_rfl)) rfl ⟨rfl, by rw [hTe.out]; exact hB3.out⟩
end Go.Proofs.YtbdhdedlemndeaaDoor

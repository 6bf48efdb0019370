/-
  What a register reads as, by the document, whole (genkrd2.py writes this text).
-/
import Derived.Test.YtbdhdedlemndeaaDoorKRd
namespace Go.Proofs.YtbdhdedlemndeaaDoor
open Go.RowKit Go.Shelf
set_option maxRecDepth 1000000
set_option maxHeartbeats 4000000
set_option linter.unusedVariables false
set_option linter.unusedSimpArgs false

theorem rread_13 {f : Nat → Nat} (w : World) (hf : f 4 < 256) : Calls Tryd.prog 12 #[.agg (docC f), .int .u8 13] w fun e w' => e = .returned (.tuple #[.agg (docC (upd f 4 0)), .int .u8 (f 4 : Nat)]) ∧ Below w.heap.size w w' := by
  have hS := (Whole.fresh w 30 (docC f)).alloc (.cells docZ 30)
  have hZ := Whole.fresh (w.alloc (.cells (docC f) 30)) 30 docZ
  rw [alloc_size] at hZ
  have hB := ((Below.refl w.heap.size w).alloc (Nat.le_refl _) (.cells (docC f) 30)).alloc (by rw [alloc_size]; exact Nat.le_succ _) (.cells docZ 30)
  unfold docZ at hS hZ hB
  have cx := hS.cell 13
  rw [show (docC f)[13]? = some (.int .i64 (f 4 : Nat)) from rfl] at cx
  have yx := hS.free 13
  have hS2 := (hS.put 13 (.int .i64 0)).as (show (docC f).setIfInBounds 13 (.int .i64 0) = docC (upd f 4 0) by kernel_rfl)
  have hZ2 := hZ.away (p := ⟨w.heap.size, 13, none⟩) (by show w.heap.size + 1 ≠ w.heap.size; omega) (.int .i64 0)
  have hB2 := hB.setCell (p := ⟨w.heap.size, 13, none⟩) (Nat.le_refl _) (.int .i64 0)
  have hld := Lib.hid (load_doc hS2)
  obtain ⟨hst, hfin⟩ := store_doc (upd f 4 0) hZ2 rfl
  have hB3 := Lib.hid (below_setRow (cs := docC (upd f 4 0)) hB2 (show w.heap.size ≤ w.heap.size + 1 by omega))
  have ww : IntKind.u8.wrap (f 4 : Int) = (f 4 : Int) := by simp only [IntKind.wrap_u8]; omega
  replace hst := Lib.hid hst
  replace hfin := Lib.hid hfin
  replace hf := Lib.hid hf
  clear hS hZ hB hS2 hZ2 hB2
  generalize f 4 = X at *
  generalize docC (upd f 4 0) = dn at *
  generalize docC f = dc at *
  have hX := hf.out
  obtain ⟨W, hW⟩ : ∃ W, (w.alloc (.cells dc 30)).alloc (.cells #[.bool false, .bool false, .bool false, .bool false, .int .i64 0, .int .i64 0, .int .i64 0, .int .i64 0, .int .i64 0, .int .i64 0, .int .i64 0, .int .i64 0, .int .i64 0, .int .i64 0, .int .i64 0, .int .i64 0, .int .u8 0, .int .u8 0, .int .u8 0, .int .u8 0, .int .u8 0, .int .u8 0, .int .u8 0, .int .u8 0, .int .u8 0, .int .u8 0] 30) = W := ⟨_, rfl⟩
  rw [hW] at cx yx hld hst hfin hB3
  replace hW := Lib.hid hW
  obtain ⟨T, hTe⟩ : ∃ T, w.heap.size = T := ⟨_, rfl⟩
  rw [hTe] at cx yx hld hst hfin hB3
  replace hTe := Lib.hid hTe
  go_enter Tryd.func12, Tryd.ntmps12
  go_upto_region 6 with (fail)
  rw [hW.out, hTe.out]
  go_wp2_with (first | (refine wpList_loadVar rfl 30 _ rfl _ _ rfl hld.out ?_) | (refine wpList_storeVar rfl 30 _ _ rfl _ _ rfl rfl hst.out ?_))
  exact bodyPost_ret (results_cell_tmp (fn := Tryd.f12) (p1 := 4) (p2 := 5) (ty1 := 30) rfl _ _ _ _ _ (0, 0) _ _ rfl hfin.out Tryd.underlying30 rfl (by kernel_rfl) rfl) rfl ⟨rfl, by rw [hTe.out]; exact hB3.out⟩
theorem rread_14 {f : Nat → Nat} (w : World) (hf : f 8 < 256) : Calls Tryd.prog 12 #[.agg (docC f), .int .u8 14] w fun e w' => e = .returned (.tuple #[.agg (docC (upd f 8 0)), .int .u8 (f 8 : Nat)]) ∧ Below w.heap.size w w' := by
  have hS := (Whole.fresh w 30 (docC f)).alloc (.cells docZ 30)
  have hZ := Whole.fresh (w.alloc (.cells (docC f) 30)) 30 docZ
  rw [alloc_size] at hZ
  have hB := ((Below.refl w.heap.size w).alloc (Nat.le_refl _) (.cells (docC f) 30)).alloc (by rw [alloc_size]; exact Nat.le_succ _) (.cells docZ 30)
  unfold docZ at hS hZ hB
  have cx := hS.cell 14
  rw [show (docC f)[14]? = some (.int .i64 (f 8 : Nat)) from rfl] at cx
  have yx := hS.free 14
  have hS2 := (hS.put 14 (.int .i64 0)).as (show (docC f).setIfInBounds 14 (.int .i64 0) = docC (upd f 8 0) by kernel_rfl)
  have hZ2 := hZ.away (p := ⟨w.heap.size, 14, none⟩) (by show w.heap.size + 1 ≠ w.heap.size; omega) (.int .i64 0)
  have hB2 := hB.setCell (p := ⟨w.heap.size, 14, none⟩) (Nat.le_refl _) (.int .i64 0)
  have hld := Lib.hid (load_doc hS2)
  obtain ⟨hst, hfin⟩ := store_doc (upd f 8 0) hZ2 rfl
  have hB3 := Lib.hid (below_setRow (cs := docC (upd f 8 0)) hB2 (show w.heap.size ≤ w.heap.size + 1 by omega))
  have ww : IntKind.u8.wrap (f 8 : Int) = (f 8 : Int) := by simp only [IntKind.wrap_u8]; omega
  replace hst := Lib.hid hst
  replace hfin := Lib.hid hfin
  replace hf := Lib.hid hf
  clear hS hZ hB hS2 hZ2 hB2
  generalize f 8 = X at *
  generalize docC (upd f 8 0) = dn at *
  generalize docC f = dc at *
  have hX := hf.out
  obtain ⟨W, hW⟩ : ∃ W, (w.alloc (.cells dc 30)).alloc (.cells #[.bool false, .bool false, .bool false, .bool false, .int .i64 0, .int .i64 0, .int .i64 0, .int .i64 0, .int .i64 0, .int .i64 0, .int .i64 0, .int .i64 0, .int .i64 0, .int .i64 0, .int .i64 0, .int .i64 0, .int .u8 0, .int .u8 0, .int .u8 0, .int .u8 0, .int .u8 0, .int .u8 0, .int .u8 0, .int .u8 0, .int .u8 0, .int .u8 0] 30) = W := ⟨_, rfl⟩
  rw [hW] at cx yx hld hst hfin hB3
  replace hW := Lib.hid hW
  obtain ⟨T, hTe⟩ : ∃ T, w.heap.size = T := ⟨_, rfl⟩
  rw [hTe] at cx yx hld hst hfin hB3
  replace hTe := Lib.hid hTe
  go_enter Tryd.func12, Tryd.ntmps12
  go_upto_region 6 with (fail)
  rw [hW.out, hTe.out]
  go_wp2_with (first | (refine wpList_loadVar rfl 30 _ rfl _ _ rfl hld.out ?_) | (refine wpList_storeVar rfl 30 _ _ rfl _ _ rfl rfl hst.out ?_))
  exact bodyPost_ret (results_cell_tmp (fn := Tryd.f12) (p1 := 4) (p2 := 5) (ty1 := 30) rfl _ _ _ _ _ (0, 0) _ _ rfl hfin.out Tryd.underlying30 rfl (by kernel_rfl) rfl) rfl ⟨rfl, by rw [hTe.out]; exact hB3.out⟩
theorem rread_15 {f : Nat → Nat} (w : World) (hf : f 12 < 256) : Calls Tryd.prog 12 #[.agg (docC f), .int .u8 15] w fun e w' => e = .returned (.tuple #[.agg (docC (upd f 12 0)), .int .u8 (f 12 : Nat)]) ∧ Below w.heap.size w w' := by
  have hS := (Whole.fresh w 30 (docC f)).alloc (.cells docZ 30)
  have hZ := Whole.fresh (w.alloc (.cells (docC f) 30)) 30 docZ
  rw [alloc_size] at hZ
  have hB := ((Below.refl w.heap.size w).alloc (Nat.le_refl _) (.cells (docC f) 30)).alloc (by rw [alloc_size]; exact Nat.le_succ _) (.cells docZ 30)
  unfold docZ at hS hZ hB
  have cx := hS.cell 15
  rw [show (docC f)[15]? = some (.int .i64 (f 12 : Nat)) from rfl] at cx
  have yx := hS.free 15
  have hS2 := (hS.put 15 (.int .i64 0)).as (show (docC f).setIfInBounds 15 (.int .i64 0) = docC (upd f 12 0) by kernel_rfl)
  have hZ2 := hZ.away (p := ⟨w.heap.size, 15, none⟩) (by show w.heap.size + 1 ≠ w.heap.size; omega) (.int .i64 0)
  have hB2 := hB.setCell (p := ⟨w.heap.size, 15, none⟩) (Nat.le_refl _) (.int .i64 0)
  have hld := Lib.hid (load_doc hS2)
  obtain ⟨hst, hfin⟩ := store_doc (upd f 12 0) hZ2 rfl
  have hB3 := Lib.hid (below_setRow (cs := docC (upd f 12 0)) hB2 (show w.heap.size ≤ w.heap.size + 1 by omega))
  have ww : IntKind.u8.wrap (f 12 : Int) = (f 12 : Int) := by simp only [IntKind.wrap_u8]; omega
  replace hst := Lib.hid hst
  replace hfin := Lib.hid hfin
  replace hf := Lib.hid hf
  clear hS hZ hB hS2 hZ2 hB2
  generalize f 12 = X at *
  generalize docC (upd f 12 0) = dn at *
  generalize docC f = dc at *
  have hX := hf.out
  obtain ⟨W, hW⟩ : ∃ W, (w.alloc (.cells dc 30)).alloc (.cells #[.bool false, .bool false, .bool false, .bool false, .int .i64 0, .int .i64 0, .int .i64 0, .int .i64 0, .int .i64 0, .int .i64 0, .int .i64 0, .int .i64 0, .int .i64 0, .int .i64 0, .int .i64 0, .int .i64 0, .int .u8 0, .int .u8 0, .int .u8 0, .int .u8 0, .int .u8 0, .int .u8 0, .int .u8 0, .int .u8 0, .int .u8 0, .int .u8 0] 30) = W := ⟨_, rfl⟩
  rw [hW] at cx yx hld hst hfin hB3
  replace hW := Lib.hid hW
  obtain ⟨T, hTe⟩ : ∃ T, w.heap.size = T := ⟨_, rfl⟩
  rw [hTe] at cx yx hld hst hfin hB3
  replace hTe := Lib.hid hTe
  go_enter Tryd.func12, Tryd.ntmps12
  go_upto_region 6 with (fail)
  rw [hW.out, hTe.out]
  go_wp2_with (first | (refine wpList_loadVar rfl 30 _ rfl _ _ rfl hld.out ?_) | (refine wpList_storeVar rfl 30 _ _ rfl _ _ rfl rfl hst.out ?_))
  exact bodyPost_ret (results_cell_tmp (fn := Tryd.f12) (p1 := 4) (p2 := 5) (ty1 := 30) rfl _ _ _ _ _ (0, 0) _ _ rfl hfin.out Tryd.underlying30 rfl (by kernel_rfl) rfl) rfl ⟨rfl, by rw [hTe.out]; exact hB3.out⟩
theorem rread_no {f : Nat → Nat} (r : Nat) (w : World) (hr : r < 4 ∨ (9 < r ∧ r < 13) ∨ 15 < r) : Calls Tryd.prog 12 #[.agg (docC f), .int .u8 (r : Nat)] w fun e w' => e = .returned (.tuple #[.agg (docC f), .int .u8 0]) ∧ Below w.heap.size w w' := by
  have hS := (Whole.fresh w 30 (docC f)).alloc (.cells docZ 30)
  have hZ := Whole.fresh (w.alloc (.cells (docC f) 30)) 30 docZ
  rw [alloc_size] at hZ
  have hB := ((Below.refl w.heap.size w).alloc (Nat.le_refl _) (.cells (docC f) 30)).alloc (by rw [alloc_size]; exact Nat.le_succ _) (.cells docZ 30)
  unfold docZ at hS hZ hB
  have hld := Lib.hid (load_doc hS)
  obtain ⟨hst, hfin⟩ := store_doc f hZ rfl
  have hB3 := Lib.hid (below_setRow (cs := docC f) hB (show w.heap.size ≤ w.heap.size + 1 by omega))
  replace hst := Lib.hid hst
  replace hfin := Lib.hid hfin
  clear hS hZ hB
  generalize docC f = dc at *
  obtain ⟨W, hW⟩ : ∃ W, (w.alloc (.cells dc 30)).alloc (.cells #[.bool false, .bool false, .bool false, .bool false, .int .i64 0, .int .i64 0, .int .i64 0, .int .i64 0, .int .i64 0, .int .i64 0, .int .i64 0, .int .i64 0, .int .i64 0, .int .i64 0, .int .i64 0, .int .i64 0, .int .u8 0, .int .u8 0, .int .u8 0, .int .u8 0, .int .u8 0, .int .u8 0, .int .u8 0, .int .u8 0, .int .u8 0, .int .u8 0] 30) = W := ⟨_, rfl⟩
  rw [hW] at hld hst hfin hB3
  replace hW := Lib.hid hW
  obtain ⟨T, hTe⟩ : ∃ T, w.heap.size = T := ⟨_, rfl⟩
  rw [hTe] at hld hst hfin hB3
  replace hTe := Lib.hid hTe
  have t8 : ((r : Int) == 8) = false := beq_eq_false_iff_ne.2 (by omega)
  have t9 : ((r : Int) == 9) = false := beq_eq_false_iff_ne.2 (by omega)
  have key : ∀ (P : Prop), (r < 4 → P) → (9 < r → r < 13 → P) → (15 < r → P) → P := fun P h1 h2 h3 => by
    rcases hr with h | ⟨h, h'⟩ | h
    · exact h1 h
    · exact h2 h h'
    · exact h3 h
  apply key
  · intro h1
    have q1 : ¬ (4 : Int) ≤ (r : Int) := by omega
    have q2 : ¬ (13 : Int) ≤ (r : Int) := by omega
    replace h1 := Lib.hid h1
    clear key hr
    go_enter Tryd.func12, Tryd.ntmps12
    go_upto_region 9 with (fail)
    rw [hW.out, hTe.out]
    go_wp2_with (first | (refine wpList_loadVar rfl 30 _ rfl _ _ rfl hld.out ?_) | (refine wpList_storeVar rfl 30 _ _ rfl _ _ rfl rfl hst.out ?_))
    exact bodyPost_ret (results_cell_tmp (fn := Tryd.f12) (p1 := 4) (p2 := 5) (ty1 := 30) rfl _ _ _ _ _ (0, 0) _ _ rfl hfin.out Tryd.underlying30 rfl (by kernel_rfl) rfl) rfl ⟨rfl, by rw [hTe.out]; exact hB3.out⟩
  · intro h1 h2
    have q0 : (4 : Int) ≤ (r : Int) := by omega
    have q1 : ¬ (r : Int) ≤ 7 := by omega
    have q2 : ¬ (13 : Int) ≤ (r : Int) := by omega
    replace h1 := Lib.hid h1
    clear key hr
    go_enter Tryd.func12, Tryd.ntmps12
    go_upto_region 9 with (fail)
    rw [hW.out, hTe.out]
    go_wp2_with (first | (refine wpList_loadVar rfl 30 _ rfl _ _ rfl hld.out ?_) | (refine wpList_storeVar rfl 30 _ _ rfl _ _ rfl rfl hst.out ?_))
    exact bodyPost_ret (results_cell_tmp (fn := Tryd.f12) (p1 := 4) (p2 := 5) (ty1 := 30) rfl _ _ _ _ _ (0, 0) _ _ rfl hfin.out Tryd.underlying30 rfl (by kernel_rfl) rfl) rfl ⟨rfl, by rw [hTe.out]; exact hB3.out⟩
  · intro h1
    have q0 : (4 : Int) ≤ (r : Int) := by omega
    have q1 : ¬ (r : Int) ≤ 7 := by omega
    have q2 : (13 : Int) ≤ (r : Int) := by omega
    have q3 : ¬ (r : Int) ≤ 15 := by omega
    replace h1 := Lib.hid h1
    clear key hr
    go_enter Tryd.func12, Tryd.ntmps12
    go_upto_region 9 with (fail)
    rw [hW.out, hTe.out]
    go_wp2_with (first | (refine wpList_loadVar rfl 30 _ rfl _ _ rfl hld.out ?_) | (refine wpList_storeVar rfl 30 _ _ rfl _ _ rfl rfl hst.out ?_))
    exact bodyPost_ret (results_cell_tmp (fn := Tryd.f12) (p1 := 4) (p2 := 5) (ty1 := 30) rfl _ _ _ _ _ (0, 0) _ _ rfl hfin.out Tryd.underlying30 rfl (by kernel_rfl) rfl) rfl ⟨rfl, by rw [hTe.out]; exact hB3.out⟩
theorem rread_any {f : Nat → Nat} (r : Nat) (w : World) (hf : ∀ i, f i < 256) : Calls Tryd.prog 12 #[.agg (docC f), .int .u8 (r : Nat)] w fun e w' => e = .returned (.tuple #[.agg (docC (readF f r)), .int .u8 (readV f r : Nat)]) ∧ Below w.heap.size w w' := by
  by_cases h : r < 4 ∨ (9 < r ∧ r < 13) ∨ 15 < r
  · have hk : kindF r = 0 ∨ kindF r = 1 ∨ kindF r = 4 := by unfold kindF; (repeat' split) <;> omega
    have e1 : readV f r = 0 := by unfold readV; rw [if_neg (by omega), if_neg (by omega), if_neg (by omega)]
    have e2 : readF f r = f := by unfold readF; rw [if_neg (by omega)]
    rw [e1, e2]
    exact rread_no r w h
  · rcases (show r = 4 ∨ r = 5 ∨ r = 6 ∨ r = 7 ∨ r = 8 ∨ r = 9 ∨ r = 13 ∨ r = 14 ∨ r = 15 by omega) with rfl | rfl | rfl | rfl | rfl | rfl | rfl | rfl | rfl
    · exact rread_4 w
    · exact rread_5 w
    · exact rread_6 w
    · exact rread_7 w
    · exact rread_8 w
    · exact rread_9 w
    · exact rread_13 w (hf _)
    · exact rread_14 w (hf _)
    · exact rread_15 w (hf _)
end Go.Proofs.YtbdhdedlemndeaaDoor

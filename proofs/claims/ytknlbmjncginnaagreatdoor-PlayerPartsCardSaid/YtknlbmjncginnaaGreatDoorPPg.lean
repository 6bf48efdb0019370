/-
  A player's registers, by the code.
-/
import Derived.Test.YtknlbmjncginnaaGreatDoorPRw
namespace Go.Proofs.YtknlbmjncginnaaGreatDoor
open Go.RowKit Go.Shelf
set_option maxRecDepth 100000
set_option maxHeartbeats 4000000
set_option linter.unusedVariables false
set_option linter.unusedSimpArgs false

section
variable {w : World} {P : Nat} {sv : Value} {p : Pl}
theorem pegs_any (h : Pk w P sv p) : Calls Tryz.prog 32 #[.pointer (some ⟨P, 0, none⟩)] w fun e w' => e = .returned (pegV p.r) ∧ Below w.heap.size w w' := by
  obtain ⟨la, lc, hP, -, -⟩ := h.cells
  have hB := (Below.refl w.heap.size w).alloc (Nat.le_refl _) (.cells pegZ 24)
  have hT := Whole.fresh w 24 pegZ
  have hP1 := hP.below hB hP.lt
  unfold plC at hP1
  have c0 := hP1.cell 0
  have c1 := hP1.cell 1
  have c2 := hP1.cell 2
  have c3 := hP1.cell 3
  have c4 := hP1.cell 4
  have c5 := hP1.cell 5
  have c6 := hP1.cell 6
  have hW := whole_set7 (r := p.r) hT
  have hBs := bel_set7 hB (Nat.le_refl _) p.r
  unfold set7 at hW hBs
  unfold pegC at hW
  unfold pegZ at hT hW hBs c0 c1 c2 c3 c4 c5 c6
  have t0 := hT.cell 0
  have t1 := hT.cell 1
  have t2 := hT.cell 2
  have t3 := hT.cell 3
  have t4 := hT.cell 4
  have t5 := hT.cell 5
  have t6 := hT.cell 6
  have f0 := hT.free 0
  have f1 := hT.free 1
  have f2 := hT.free 2
  have f3 := hT.free 3
  have f4 := hT.free 4
  have f5 := hT.free 5
  have f6 := hT.free 6
  simp only [List.getElem?_toArray, List.getElem?_cons_zero, List.getElem?_cons_succ] at c0 c1 c2 c3 c4 c5 c6 t0 t1 t2 t3 t4 t5 t6
  unfold pegV
  replace hW := Lib.hid hW
  replace hBs := Lib.hid hBs
  clear hP1 hP hB hT h
  go_enter Tryz.func32, Tryz.ntmps32
  go_upto_region 3 with (fail)
  generalize w.alloc (.cells #[.int .u8 0, .int .u8 0, .int .u8 0, .int .u8 0, .int .u8 0, .int .u16 0, .bool false] 24) = V at *
  obtain ⟨T, hTe⟩ : ∃ T, w.heap.size = T := ⟨_, rfl⟩
  rw [hTe] at t0 t1 t2 t3 t4 t5 t6 f0 f1 f2 f3 f4 f5 f6 hW hBs ⊢
  go_wp2_with fail
  exact bodyPost_ret (results_cell_row (fn := Tryz.f32) (p := 2) (ty := 24) rfl _ _ _ _ _ (0, 0) _ rfl hW.out Tryz.underlying24 rfl (by kernel_rfl)) rfl ⟨rfl, by rw [hTe]; exact hBs.out⟩
end
end Go.Proofs.YtknlbmjncginnaaGreatDoor

/-
  A code by the code.
-/
import Derived.Test.YtmbpkpideepghaaDoorSz
import Derived.RegionTactic
namespace Go.Proofs.YtmbpkpideepghaaDoor
open Go.RowKit
set_option maxRecDepth 1000000
set_option maxHeartbeats 400000
set_option linter.unusedVariables false

attribute [local irreducible] partF inF bytesN modeF nameF widthF useF wideF
/-- A code's value. -/
def codeV (cd : Nat) (nm : ByteArray) (m u wd : Nat) : Value := .agg #[.int .u8 cd, .string nm, .int .u8 m, .int .u8 u, .int .u8 wd]
theorem of_any (c : Nat) (w : World) (hc : c < 256) : Calls Tryd.prog 10 #[.int .u8 c] w fun e w' => e = .returned (codeV c (nameF c) (modeF c) (useF (nameF c).toList (modeF c)) (widthF (nameF c).toList)) ∧ Below w.heap.size w w' := by
  have hB := (Below.refl w.heap.size w).alloc (Nat.le_refl _) (.cells #[.int .u8 0, .string ⟨#[]⟩, .int .u8 0, .int .u8 0, .int .u8 0] 23)
  have hX := Whole.fresh w 23 #[.int .u8 0, .string ⟨#[]⟩, .int .u8 0, .int .u8 0, .int .u8 0]
  have HM := fun W => modeOf_any c W hc
  have HN := fun W => nameOf_any c W hc
  have HW := fun W => widthOf_any (nameF c) W
  have HU := fun W => useOf_any (nameF c) (modeF c) W
  generalize useF (nameF c).toList (modeF c) = u at *
  generalize modeF c = m at *
  generalize widthF (nameF c).toList = wd at *
  generalize nameF c = nm at *
  unfold codeV
  replace HM := Lib.hid HM
  replace HN := Lib.hid HN
  replace HW := Lib.hid HW
  replace HU := Lib.hid HU
  go_enter Tryd.func10, Tryd.ntmps10
  go_upto_region 1 with (fail)
  generalize (w.alloc (.cells #[.int .u8 0, .string ⟨#[]⟩, .int .u8 0, .int .u8 0, .int .u8 0] 23)) = W1 at *
  have f0 := hX.free 0
  have f1 := hX.free 1
  have f2 := hX.free 2
  have f3 := hX.free 3
  have f4 := hX.free 4
  have x0 := hX.cell 0
  have x1 := hX.cell 1
  have x2 := hX.cell 2
  have x3 := hX.cell 3
  have x4 := hX.cell 4
  simp only [List.getElem?_toArray, List.getElem?_cons_zero, List.getElem?_cons_succ] at x0 x1 x2 x3 x4
  have hZ := ((((hX.put 0 (.int .u8 c)).put 1 (.string nm)).put 2 (.int .u8 m)).put 3 (.int .u8 u)).put 4 (.int .u8 wd)
  have hBz := ((((hB.setCell (p := ⟨w.heap.size, 0, none⟩) (Nat.le_refl _) (.int .u8 c)).setCell (p := ⟨w.heap.size, 1, none⟩) (Nat.le_refl _) (.string nm)).setCell (p := ⟨w.heap.size, 2, none⟩) (Nat.le_refl _) (.int .u8 m)).setCell (p := ⟨w.heap.size, 3, none⟩) (Nat.le_refl _) (.int .u8 u)).setCell (p := ⟨w.heap.size, 4, none⟩) (Nat.le_refl _) (.int .u8 wd)
  have z0 := hZ.cell 0
  have z1 := hZ.cell 1
  have z2 := hZ.cell 2
  have z3 := hZ.cell 3
  have z4 := hZ.cell 4
  replace hBz := Lib.hid hBz
  clear hX hB hZ
  generalize hXe : w.heap.size = X at *
  replace hXe := Lib.hid hXe
  go_wp2_with fail
  with_reducible refine (HN.out _).mono ?_
  rintro e w' ⟨rfl, rfl⟩
  go_wp2_with fail
  with_reducible refine (HM.out _).mono ?_
  rintro e w' ⟨rfl, rfl⟩
  go_wp2_with fail
  with_reducible refine (HU.out _).mono ?_
  rintro e w' ⟨rfl, rfl⟩
  go_wp2_with fail
  with_reducible refine (HW.out _).mono ?_
  rintro e w' ⟨rfl, rfl⟩
  clear HN HM HU HW
  go_wp2_with fail
  exact bodyPost_ret (v := .agg #[.int .u8 c, .string nm, .int .u8 m, .int .u8 u, .int .u8 wd]) (by simp [results, Tryd.results10, go_sem, z0, z1, z2, z3, z4]) rfl ⟨rfl, by rw [hXe.out]; exact hBz.out⟩
end Go.Proofs.YtmbpkpideepghaaDoor

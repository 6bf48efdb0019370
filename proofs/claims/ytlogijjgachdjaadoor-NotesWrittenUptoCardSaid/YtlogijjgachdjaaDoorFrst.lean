/-
  The code with which bytes begin.
-/
import Derived.Test.YtlogijjgachdjaaDoorOf
import Derived.Deep.RegionHeld3
namespace Go.Proofs.YtlogijjgachdjaaDoor
open Go.RowKit
set_option maxRecDepth 100000
set_option maxHeartbeats 4000000
set_option linter.unusedVariables false

def zeroNote : Value := .agg #[.int .u8 0, .string ⟨#[]⟩, .string ⟨#[]⟩, .int .i64 0, .int .i64 0]
theorem first_nil (a : Option Addr) (cap : Nat) (w : World) : Calls Tryd.prog 29 #[.slice a 0 cap] w fun e w' => e = .returned (.tuple #[zeroNote, .bool false]) ∧ Below w.heap.size w w' := by
  unfold zeroNote
  have hX := Whole.fresh w 25 #[.int .u8 0, .string ⟨#[]⟩, .string ⟨#[]⟩, .int .i64 0, .int .i64 0]
  have hB := (Below.refl w.heap.size w).alloc (Nat.le_refl _) (.cells #[.int .u8 0, .string ⟨#[]⟩, .string ⟨#[]⟩, .int .i64 0, .int .i64 0] 25)
  go_enter Tryd.func29, Tryd.ntmps29
  go_upto_region 1 with (fail)
  generalize w.alloc (.cells #[.int .u8 0, .string ⟨#[]⟩, .string ⟨#[]⟩, .int .i64 0, .int .i64 0] 25) = W1 at *
  have f0 := hX.free 0
  have f1 := hX.free 1
  have f2 := hX.free 2
  have f3 := hX.free 3
  have f4 := hX.free 4
  have x0 := hX.cell 0
  have x1 := hX.cell 1
  have x2 := hX.cell 2
  have x3 := hX.cell 3
  have x4 := hX.cell 4
  simp only [List.getElem?_toArray, List.getElem?_cons_zero, List.getElem?_cons_succ] at x0 x1 x2 x3 x4
  have hZ := (((((hX.put 0 (.int .u8 0)).put 1 (.string ⟨#[]⟩)).put 2 (.string ⟨#[]⟩)).put 3 (.int .i64 0)).put 4 (.int .i64 0))
  have hBz := (((((hB.setCell (p := ⟨w.heap.size, 0, none⟩) (Nat.le_refl _) (.int .u8 0)).setCell (p := ⟨w.heap.size, 1, none⟩) (Nat.le_refl _) (.string ⟨#[]⟩)).setCell (p := ⟨w.heap.size, 2, none⟩) (Nat.le_refl _) (.string ⟨#[]⟩)).setCell (p := ⟨w.heap.size, 3, none⟩) (Nat.le_refl _) (.int .i64 0)).setCell (p := ⟨w.heap.size, 4, none⟩) (Nat.le_refl _) (.int .i64 0))
  have z0 := hZ.cell 0
  have z1 := hZ.cell 1
  have z2 := hZ.cell 2
  have z3 := hZ.cell 3
  have z4 := hZ.cell 4
  replace hBz := Lib.hid hBz
  clear hX hB hZ
  generalize hXe : w.heap.size = X at *
  replace hXe := Lib.hid hXe
  go_wp2_with fail
  exact bodyPost_ret (v := .tuple #[.agg #[.int .u8 0, .string ⟨#[]⟩, .string ⟨#[]⟩, .int .i64 0, .int .i64 0], .bool false]) (by simp [results, Tryd.results29, go_sem, z0, z1, z2, z3, z4]) rfl ⟨rfl, by rw [hXe.out]; exact hBz.out⟩
theorem first_some (c g o n cap : Nat) (w : World) (hc : c < 256) (hn : 1 ≤ n) (h0 : w.cell? ⟨g, o, none⟩ = some (.int .u8 c)) (hg : g < w.heap.size) :
    Calls Tryd.prog 29 #[.slice (some ⟨g, o, none⟩) n cap] w fun e w' => e = .returned (.tuple #[ntV c, .bool (decide (szF c ≤ n))]) ∧ Below w.heap.size w w' := by
  have HO := fun W => of_any c W hc
  unfold ntV at *
  generalize nmF c = nm at *
  generalize fmF c = fm at *
  generalize szF c = sz at *
  generalize cyF c = cy at *
  generalize hd : decide (sz ≤ n) = d
  have hd1 : decide ((sz : Int) ≤ (n : Int)) = d := by rw [← hd]; congr 1; simp
  replace hd := Lib.hid hd
  replace HO := Lib.hid HO
  have hX := Whole.fresh w 25 #[.int .u8 0, .string ⟨#[]⟩, .string ⟨#[]⟩, .int .i64 0, .int .i64 0]
  have hB := (Below.refl w.heap.size w).alloc (Nat.le_refl _) (.cells #[.int .u8 0, .string ⟨#[]⟩, .string ⟨#[]⟩, .int .i64 0, .int .i64 0] 25)
  have h1 := (hB.cell (p := ⟨g, o, none⟩) hg).trans h0
  have t0 : ((n : Int) == 0) = false := by rw [beq_eq_false_iff_ne]; omega
  clear h0
  go_enter Tryd.func29, Tryd.ntmps29
  go_upto_region 1 with (fail)
  generalize w.alloc (.cells #[.int .u8 0, .string ⟨#[]⟩, .string ⟨#[]⟩, .int .i64 0, .int .i64 0] 25) = W1 at *
  go_wp2_with fail
  with_reducible refine (HO.out _).mono ?_
  rintro e W2 ⟨rfl, hB2⟩
  have hX2 := (hX.below hB2 hX.lt).alloc (.cells #[.int .u8 c, .string nm, .string fm, .int .i64 sz, .int .i64 cy] 25)
  have hY2 := Whole.fresh W2 25 #[.int .u8 c, .string nm, .string fm, .int .i64 sz, .int .i64 cy]
  replace hB := (hB.trans (hB2.mono hB.size)).alloc (Nat.le_trans hB.size hB2.size) (.cells #[.int .u8 c, .string nm, .string fm, .int .i64 sz, .int .i64 cy] 25)
  have hlt := hX.lt
  have hsz2 := hB2.size
  clear hB2 hX h1
  go_upto_region 4 with (fail)
  generalize W2.alloc (.cells #[.int .u8 c, .string nm, .string fm, .int .i64 sz, .int .i64 cy] 25) = W3 at *
  have hne : w.heap.size ≠ W2.heap.size := by omega
  have y0 := hY2.cell 0
  have y1 := hY2.cell 1
  have y2 := hY2.cell 2
  have y3 := hY2.cell 3
  have y4 := hY2.cell 4
  simp only [List.getElem?_toArray, List.getElem?_cons_zero, List.getElem?_cons_succ] at y0 y1 y2 y3 y4
  have f0 := hX2.free 0
  have f1 := hX2.free 1
  have f2 := hX2.free 2
  have f3 := hX2.free 3
  have f4 := hX2.free 4
  have x0 := hX2.cell 0
  have x1 := hX2.cell 1
  have x2 := hX2.cell 2
  have x3 := hX2.cell 3
  have x4 := hX2.cell 4
  simp only [List.getElem?_toArray, List.getElem?_cons_zero, List.getElem?_cons_succ] at x0 x1 x2 x3 x4
  have hZ := (((((hX2.put 0 (.int .u8 c)).put 1 (.string nm)).put 2 (.string fm)).put 3 (.int .i64 sz)).put 4 (.int .i64 cy)).drew
  have hBz := (((((hB.setCell (p := ⟨w.heap.size, 0, none⟩) (Nat.le_refl _) (.int .u8 c)).setCell (p := ⟨w.heap.size, 1, none⟩) (Nat.le_refl _) (.string nm)).setCell (p := ⟨w.heap.size, 2, none⟩) (Nat.le_refl _) (.string fm)).setCell (p := ⟨w.heap.size, 3, none⟩) (Nat.le_refl _) (.int .i64 sz)).setCell (p := ⟨w.heap.size, 4, none⟩) (Nat.le_refl _) (.int .i64 cy)).drew
  replace hBz := Lib.hid hBz
  replace hZ := Lib.hid hZ
  clear hX2 hB hY2 hlt hsz2
  generalize hXe : w.heap.size = X at *
  replace hXe := Lib.hid hXe
  generalize W2.heap.size = Y at *
  have hne2 : Y ≠ X := fun e => hne e.symm
  go_region_held3 (fun W => W.cell? ⟨Y, 0, none⟩ = some (.int .u8 c) ∧ W.cell? ⟨Y, 1, none⟩ = some (.string nm) ∧ W.cell? ⟨Y, 2, none⟩ = some (.string fm) ∧ W.cell? ⟨Y, 3, none⟩ = some (.int .i64 sz) ∧ W.cell? ⟨Y, 4, none⟩ = some (.int .i64 cy)) (go_keep) (fail)
  generalize (((((W3.setCell ⟨X, 0, none⟩ (.int .u8 c)).setCell ⟨X, 1, none⟩ (.string nm)).setCell ⟨X, 2, none⟩ (.string fm)).setCell ⟨X, 3, none⟩ (.int .i64 sz)).setCell ⟨X, 4, none⟩ (.int .i64 cy)).drew = WF at *
  replace hZ := hZ.out
  have z0 := hZ.cell 0
  have z1 := hZ.cell 1
  have z2 := hZ.cell 2
  have z3 := hZ.cell 3
  have z4 := hZ.cell 4
  simp only [List.setIfInBounds_toArray, List.set_cons_zero, List.set_cons_succ, List.getElem?_toArray, List.getElem?_cons_zero, List.getElem?_cons_succ] at z0 z1 z2 z3 z4
  clear f0 f1 f2 f3 f4 x0 x1 x2 x3 x4 y0 y1 y2 y3 y4
  go_wp2_with fail
  exact bodyPost_ret (v := .tuple #[.agg #[.int .u8 c, .string nm, .string fm, .int .i64 sz, .int .i64 cy], .bool d]) (by simp [results, Tryd.results29, go_sem, z0, z1, z2, z3, z4]; exact hd.out) rfl ⟨rfl, by rw [hXe.out]; exact hBz.out⟩
end Go.Proofs.YtlogijjgachdjaaDoor

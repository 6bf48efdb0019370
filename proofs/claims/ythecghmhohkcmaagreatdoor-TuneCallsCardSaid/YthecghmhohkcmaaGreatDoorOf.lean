/-
  A code: by the code and by the document.
-/
import Derived.Test.YthecghmhohkcmaaGreatDoorByt
namespace Go.Proofs.YthecghmhohkcmaaGreatDoor
open Go.RowKit
set_option maxRecDepth 1000000
set_option maxHeartbeats 4000000
set_option linter.unusedVariables false

def szF (c : Nat) : Nat := 1 + byL (fmL c)
/-- A code as a value. -/
def ntV (c : Nat) : Value := .agg #[.int .u8 c, .string (nmF c), .string (fmF c), .int .i64 (szF c : Nat), .int .i64 (cyF c : Nat)]
theorem fm_all (c : Nat) (hc : c < 256) : (∀ x ∈ fmL c, x < 128) ∧ cyF c < 16 ∧ 2 ≤ cyF c ∧ cyF c ≤ 12 ∧ szF c ≤ 3 ∧ nmL c ≠ [] ∧ (∀ x ∈ nmL c, x < 128) :=
  (show ∀ c, c < 256 → (∀ x ∈ fmL c, x < 128) ∧ cyF c < 16 ∧ 2 ≤ cyF c ∧ cyF c ≤ 12 ∧ szF c ≤ 3 ∧ nmL c ≠ [] ∧ (∀ x ∈ nmL c, x < 128) by decide +kernel) c hc
theorem of_any (c : Nat) (w : World) (hc : c < 256) : Calls Tryz.prog 48 #[.int .u8 c] w fun e w' => e = .returned (ntV c) ∧ Below w.heap.size w w' := by
  obtain ⟨h1, h2, h3, h4, h5, h6, h7⟩ := fm_all c hc
  have hl2 := fmL_le c hc
  have H1 := fun W => rowOf_any c W hc
  have H2 := fun W => bytesOf_any (fmL c) W h1 (by omega)
  have hb := byL_le (fmL c)
  unfold ntV szF fmF at *
  generalize bsOf (fmL c) = fm at *
  generalize byL (fmL c) = b at *
  generalize nmF c = nm at *
  generalize cyF c = cy at *
  replace H1 := Lib.hid H1
  replace H2 := Lib.hid H2
  clear h1 h6 h7
  go_enter Tryz.func48, Tryz.ntmps48
  go_wp2_with fail
  with_reducible refine (H1.out _).mono ?_
  rintro e W1 ⟨rfl, hB1⟩
  have hX1 := (Whole.fresh w 51 #[.int .u8 0, .string ⟨#[]⟩, .string ⟨#[]⟩, .int .i64 0, .int .i64 0]).below hB1 (by simp)
  have hB := ((Below.refl w.heap.size w).alloc (Nat.le_refl _) (.cells #[.int .u8 0, .string ⟨#[]⟩, .string ⟨#[]⟩, .int .i64 0, .int .i64 0] 51)).trans (hB1.mono (by simp))
  have hl1 := hX1.lt
  clear hB1
  go_wp2_with fail
  with_reducible refine (H2.out _).mono ?_
  rintro e W2 ⟨rfl, hB2⟩
  have hX := hX1.below hB2 hX1.lt
  replace hB := hB.trans (hB2.mono (by omega))
  clear hX1 hB2 hl1
  have f0 := hX.free 0
  have f1 := hX.free 1
  have f2 := hX.free 2
  have f3 := hX.free 3
  have f4 := hX.free 4
  have x0 := hX.cell 0
  have x1 := hX.cell 1
  have x2 := hX.cell 2
  have x3 := hX.cell 3
  have x4 := hX.cell 4
  simp only [List.getElem?_toArray, List.getElem?_cons_zero, List.getElem?_cons_succ] at x0 x1 x2 x3 x4
  have hZ := (((((hX.put 0 (.int .u8 c)).put 1 (.string nm)).put 2 (.string fm)).put 3 (.int .i64 (1 + (b : Int)))).put 4 (.int .i64 (cy : Nat)))
  have hBz := (((((hB.setCell (p := ⟨w.heap.size, 0, none⟩) (Nat.le_refl _) (.int .u8 c)).setCell (p := ⟨w.heap.size, 1, none⟩) (Nat.le_refl _) (.string nm)).setCell (p := ⟨w.heap.size, 2, none⟩) (Nat.le_refl _) (.string fm)).setCell (p := ⟨w.heap.size, 3, none⟩) (Nat.le_refl _) (.int .i64 (1 + (b : Int)))).setCell (p := ⟨w.heap.size, 4, none⟩) (Nat.le_refl _) (.int .i64 (cy : Nat)))
  have z0 := hZ.cell 0
  have z1 := hZ.cell 1
  have z2 := hZ.cell 2
  have z3 := hZ.cell 3
  have z4 := hZ.cell 4
  replace hBz := Lib.hid hBz
  clear hX hB hZ
  generalize hXe : w.heap.size = X at *
  replace hXe := Lib.hid hXe
  go_wp2_with fail
  exact bodyPost_ret (v := .agg #[.int .u8 c, .string nm, .string fm, .int .i64 (1 + (b : Int)), .int .i64 (cy : Nat)]) (by simp [results, Tryz.results48, go_sem, z0, z1, z2, z3, z4]) rfl ⟨rfl, by rw [hXe.out]; exact hBz.out⟩
end Go.Proofs.YthecghmhohkcmaaGreatDoor

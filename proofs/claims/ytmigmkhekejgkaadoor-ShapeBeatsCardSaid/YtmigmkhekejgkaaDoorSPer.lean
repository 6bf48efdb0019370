/-
  Periods and beats, by the code; the table of the longest periods.
-/
import Derived.Test.YtmigmkhekejgkaaDoorSOpn
import Derived.Lib.LaidTab
import Derived.LaidMore
import Derived.Lay
namespace Go.Proofs.YtmigmkhekejgkaaDoor
open Go.RowKit Go.Shelf Go.ChangeShapes Go.WideShapes Go.ChangeAt
set_option maxRecDepth 100000
set_option maxHeartbeats 1000000
set_option linter.unusedVariables false
set_option linter.unusedSimpArgs false

/-- The table holds what its initialiser laid. -/
structure Pd (w : World) : Prop where
  p0 : w.cell? ⟨0, 0, none⟩ = some (.int .i64 2048)
  p1 : w.cell? ⟨0, 1, none⟩ = some (.int .i64 1536)
  p2 : w.cell? ⟨0, 2, none⟩ = some (.int .i64 1280)
theorem pd_of {W : World} (h : laidMet Tryd.prog [("lanthorn/shape.longest", Rows.laid_lanthorn_shape_longest)] W) : Pd W := by
  have hT : Lib.TabIs Tryd.prog W "lanthorn/shape.longest" .i64 [2048, 1536, 1280] := Lib.tabIs_of_head (g := 0) (t := 24) (e := 3) (n := 3) (rest := []) (by kernel_rfl) (by kernel_rfl) Tryd.underlying24 Tryd.underlying3 (by kernel_rfl) (by kernel_rfl) h
  have hg : Tryd.prog.globalNamed "lanthorn/shape.longest" = some 0 := by kernel_rfl
  exact ⟨hT.cell hg 0 (by decide), hT.cell hg 1 (by decide), hT.cell hg 2 (by decide)⟩
/-- The period of a rate; 0: it has none. -/
def perF (r : Nat) : Nat := [0, 2048, 1536, 1280, 1024, 768, 640, 512, 384, 320, 256, 192, 160, 128, 96, 80, 64, 48, 40, 32, 24, 20, 16, 12, 10, 8, 6, 5, 4, 3, 2, 1].getD r 0
theorem perF_none (r : Nat) (h : 31 < r) : perF r = 0 := by
  unfold perF
  rw [List.getD_eq_getElem?_getD, List.getElem?_eq_none (by simp; omega)]
  rfl
theorem perF_pos : ∀ r : Fin 32, 1 ≤ r.val → 1 ≤ perF r.val ∧ perF r.val ≤ 2048 := by decide
theorem perF_falls : ∀ r : Fin 31, 1 ≤ r.val → perF (r.val + 1) ≤ perF r.val := by decide
theorem period_any (w : World) (r : Nat) (hP : Pd w) (hr : r < 256) : Calls Tryd.prog 4 #[.int .u8 (r : Nat)] w fun e w' => e = .returned (.int .i64 (perF r : Nat)) ∧ w' = w := by
  have q0 := hP.p0
  have q1 := hP.p1
  have q2 := hP.p2
  clear hP
  by_cases h1 : 31 < r
  · have hp := Lib.hid (perF_none r h1)
    have hd : decide ((31 : Int) < (r : Int)) = true := decide_eq_true (by omega)
    go_enter Tryd.func4, Tryd.ntmps4
    go_wp2_with fail
    go_ret
    exact ⟨by rw [hp.out]; rfl, rfl⟩
  · rcases (show r = 0 ∨ r = 1 ∨ r = 2 ∨ r = 3 ∨ r = 4 ∨ r = 5 ∨ r = 6 ∨ r = 7 ∨ r = 8 ∨ r = 9 ∨ r = 10 ∨ r = 11 ∨ r = 12 ∨ r = 13 ∨ r = 14 ∨ r = 15 ∨ r = 16 ∨ r = 17 ∨ r = 18 ∨ r = 19 ∨ r = 20 ∨ r = 21 ∨ r = 22 ∨ r = 23 ∨ r = 24 ∨ r = 25 ∨ r = 26 ∨ r = 27 ∨ r = 28 ∨ r = 29 ∨ r = 30 ∨ r = 31 by omega) with rfl | rfl | rfl | rfl | rfl | rfl | rfl | rfl | rfl | rfl | rfl | rfl | rfl | rfl | rfl | rfl | rfl | rfl | rfl | rfl | rfl | rfl | rfl | rfl | rfl | rfl | rfl | rfl | rfl | rfl | rfl | rfl
    all_goals
      go_enter Tryd.func4, Tryd.ntmps4
      go_wp2_with fail
      go_ret
      exact ⟨rfl, rfl⟩
theorem beats_any (w : World) (r : Nat) (n : Int) (hP : Pd w) (hr : r < 256) (h1 : -9223372036854775808 ≤ n) (h2 : n ≤ 9223372036854775807) : Calls Tryd.prog 5 #[.int .u8 (r : Nat), .int .i64 n] w fun e w' => e = .returned (.bool (decide (0 < perF r) && decide (n % (perF r : Int) = 0))) ∧ w' = w := by
  have H := Lib.hid (period_any w r hP hr)
  by_cases h0 : perF r = 0
  · rw [h0] at H ⊢
    go_enter Tryd.func5, Tryd.ntmps5
    go_wp2_with fail
    refine H.out.mono ?_
    rintro e w' ⟨rfl, rfl⟩
    go_wp2_with fail
    go_ret
    exact ⟨rfl, rfl⟩
  · have hpos : decide (0 < perF r) = true := decide_eq_true (by omega)
    rw [hpos]
    generalize perF r = p at *
    have ht : (n.tmod (p : Int) == 0) = decide (n % (p : Int) = 0) := by
      by_cases h : n % (p : Int) = 0
      · rw [decide_eq_true h, beq_iff_eq]
        exact Int.tmod_eq_zero_of_dvd (Int.dvd_of_emod_eq_zero h)
      · rw [decide_eq_false h, beq_eq_false_iff_ne]
        exact fun e => h (Int.emod_eq_zero_of_dvd (Int.dvd_of_tmod_eq_zero e))
    have hp0 : ¬ ((p : Int) = 0) := by omega
    have hpe : ((p : Int) != 0) = true := bne_iff_ne.2 hp0
    go_enter Tryd.func5, Tryd.ntmps5
    go_wp2_with fail
    refine H.out.mono ?_
    rintro e w' ⟨rfl, rfl⟩
    clear H
    go_wp2_with fail
    go_ret
    exact ⟨rfl, rfl⟩
end Go.Proofs.YtmigmkhekejgkaaDoor

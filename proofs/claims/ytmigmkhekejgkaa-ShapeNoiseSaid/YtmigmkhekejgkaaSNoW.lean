/-
  The walk of ShapeNoise.
-/
import Derived.Test.YtmigmkhekejgkaaSNse
import Derived.StillTailTactics
import Derived.Deep.RegionHeld3
import Derived.Deep.Cut
namespace Go.Proofs.Ytmigmkhekejgkaa.shapeNoise
open Go.RowKit Go.Shelf
set_option maxRecDepth 100000
set_option maxHeartbeats 1000000
set_option linter.unusedVariables false
set_option linter.unusedSimpArgs false

theorem walk (x y : Nat) (w : World) (hx : x < 65536) (hy : y < 65536) : Calls Try.prog 4 #[.int .u16 (x : Nat), .int .u16 (y : Nat)] w fun e w' => e = .returned (.bool true) ∧ Below w.heap.size w w' := by
  have HX := Lib.hid (noise_any w x hx)
  have HY := Lib.hid (noise_any w y hy)
  have H1 := Lib.hid (show Calls Try.prog 8 #[.int .u16 1] w fun e w' => e = .returned (.int .u16 16384) ∧ w' = w from noise_any w 1 (by decide))
  have H2 := Lib.hid (show Calls Try.prog 8 #[.int .u16 2] w fun e w' => e = .returned (.int .u16 16385) ∧ w' = w from noise_any w 2 (by decide))
  have hs := noiF_same x y
  have hz := noiF_zero x
  have ha := noiF_lt x
  have hb := noiF_lt y
  have e1 : (x : Int) % 32768 = ((x % 32768 : Nat) : Int) := by omega
  have e2 : (y : Int) % 32768 = ((y % 32768 : Nat) : Int) := by omega
  have t1 : x % 32768 < 32768 := by omega
  have t2 : y % 32768 < 32768 := by omega
  generalize noiF x = a at *
  generalize noiF y = b at *
  generalize x % 32768 = u at *
  generalize y % 32768 = v at *
  have d1h := Lib.hid (show decide ((a : Int) < 32768) = true from decide_eq_true (by omega))
  have d2h := Lib.hid (show decide ((b : Int) < 32768) = true from decide_eq_true (by omega))
  have hfin := Lib.hid (And.intro hs hz)
  replace t1 := Lib.hid t1
  replace t2 := Lib.hid t2
  replace ha := Lib.hid ha
  replace hb := Lib.hid hb
  clear hx hy hs hz
  go_enter Try.func4, Try.ntmps4
  go_wp2_with fail
  refine HX.out.mono ?_
  rintro e w' ⟨rfl, rfl⟩
  go_wp2_with fail
  refine HY.out.mono ?_
  rintro e w' ⟨rfl, rfl⟩
  go_wp2_with fail
  refine H1.out.mono ?_
  rintro e w' ⟨rfl, rfl⟩
  go_wp2_with fail
  refine H2.out.mono ?_
  rintro e w' ⟨rfl, rfl⟩
  clear HX HY H1 H2 e1 e2
  go_upto_region 7 with (fail)
  have d1 : decide ((a : Int) < 32768) = true := d1h.out
  have d2 : decide ((b : Int) < 32768) = true := d2h.out
  generalize (32768 : Int) = K at *
  have hsb : ((a : Int) == (b : Int)) = ((u : Int) == (v : Int)) := by
    have := hfin.out.1
    by_cases h : u = v
    · rw [this.2 h, h]; simp
    · have h2 : ¬ a = b := fun e => h (this.1 e)
      rw [beq_eq_false_iff_ne.2 (by omega), beq_eq_false_iff_ne.2 (by omega)]
  have hz : ((a : Int) == 0) = ((u : Int) == 0) := by
    have := hfin.out.2
    by_cases h : u = 0
    · rw [this.2 h, h]
    · have h2 : ¬ a = 0 := fun e => h (this.1 e)
      rw [beq_eq_false_iff_ne.2 (by omega), beq_eq_false_iff_ne.2 (by omega)]
  have hz' := Lib.hid hz
  clear hz
  go_wp2_with fail
  all_goals first
    | (exfalso; rename_i h; exact h hsb)
    | (go_ret; exact ⟨by show Ending.returned (.bool (((a : Int) == 0) == ((u : Int) == 0))) = _; rw [hz'.out]; simp, Below.refl _ _⟩)
    | trace_state
end Go.Proofs.Ytmigmkhekejgkaa.shapeNoise

/-
  Levels and noise: by the code and by the document.
-/
import Derived.Test.YtmigmkhekejgkaaSOpn
namespace Go.Proofs.Ytmigmkhekejgkaa
open Go.RowKit Go.Shelf
set_option maxRecDepth 100000
set_option maxHeartbeats 1000000
set_option linter.unusedVariables false
set_option linter.unusedSimpArgs false

/-- The nearest level. -/
def levF (x : Int) : Int := if x < 0 then 0 else if 2047 < x then 2047 else x
/-- The noise behind one. -/
def noiF (x : Nat) : Nat := x % 32768 / 2 + if x % 2 = x / 2 % 2 then 0 else 16384
theorem noiF_lt (x : Nat) : noiF x < 32768 := by unfold noiF; split <;> omega
theorem noiF_same (x y : Nat) : (noiF x = noiF y) ↔ (x % 32768 = y % 32768) := by
  have k1 : x / 2 % 2 = x % 32768 / 2 % 2 := by omega
  have k2 : x % 2 = x % 32768 % 2 := by omega
  have k3 : y / 2 % 2 = y % 32768 / 2 % 2 := by omega
  have k4 : y % 2 = y % 32768 % 2 := by omega
  have k5 : x % 32768 < 32768 := by omega
  have k6 : y % 32768 < 32768 := by omega
  unfold noiF
  constructor
  · intro h
    rw [k1, k2, k3, k4] at h
    generalize x % 32768 = u at *
    generalize y % 32768 = v at *
    clear k1 k2 k3 k4
    (repeat' split at h) <;> omega
  · intro h
    have h2 : x % 2 = y % 2 := by omega
    have h3 : x / 2 % 2 = y / 2 % 2 := by omega
    rw [h, h2, h3]
theorem noiF_zero (x : Nat) : (noiF x = 0) ↔ (x % 32768 = 0) := by
  unfold noiF
  constructor
  · intro h; split at h <;> omega
  · intro h; rw [if_pos (by omega)]; omega
theorem clamp_any (w : World) (x : Int) : Calls Try.prog 10 #[.int .i64 x] w fun e w' => e = .returned (.int .i64 (levF x)) ∧ w' = w := by
  by_cases h1 : x < 0
  · have hc : levF x = 0 := by unfold levF; rw [if_pos h1]
    replace hc := Lib.hid hc
    go_enter Try.func10, Try.ntmps10
    go_wp2_with fail
    all_goals first
      | (exfalso; omega)
      | (go_ret; exact ⟨by rw [hc.out]; rfl, rfl⟩)
  by_cases h2 : 2047 < x
  · have hc : levF x = 2047 := by unfold levF; rw [if_neg h1, if_pos h2]
    replace hc := Lib.hid hc
    go_enter Try.func10, Try.ntmps10
    go_wp2_with fail
    all_goals first
      | (exfalso; omega)
      | (go_ret; exact ⟨by rw [hc.out]; rfl, rfl⟩)
  · have hc : levF x = x := by unfold levF; rw [if_neg h1, if_neg h2]
    replace hc := Lib.hid hc
    go_enter Try.func10, Try.ntmps10
    go_wp2_with fail
    all_goals first
      | (exfalso; omega)
      | (go_ret; exact ⟨by rw [hc.out]; rfl, rfl⟩)
      | (obtain rfl : x = 0 := by omega
         go_ret
         exact ⟨by rw [hc.out]; rfl, rfl⟩)
theorem rclamp_any (w : World) (x : Int) : Calls Try.prog 7 #[.int .i64 x] w fun e w' => e = .returned (.int .i64 (levF x)) ∧ w' = w := by
  by_cases h1 : x < 0
  · have hc : levF x = 0 := by unfold levF; rw [if_pos h1]
    replace hc := Lib.hid hc
    go_enter Try.func7, Try.ntmps7
    go_wp2_with fail
    go_ret
    exact ⟨by rw [hc.out]; rfl, rfl⟩
  by_cases h2 : 2047 < x
  · have hc : levF x = 2047 := by unfold levF; rw [if_neg h1, if_pos h2]
    replace hc := Lib.hid hc
    go_enter Try.func7, Try.ntmps7
    go_wp2_with fail
    go_ret
    exact ⟨by rw [hc.out]; rfl, rfl⟩
  · have hc : levF x = x := by unfold levF; rw [if_neg h1, if_neg h2]
    replace hc := Lib.hid hc
    go_enter Try.func7, Try.ntmps7
    go_wp2_with fail
    go_ret
    exact ⟨by rw [hc.out]; rfl, rfl⟩
end Go.Proofs.Ytmigmkhekejgkaa

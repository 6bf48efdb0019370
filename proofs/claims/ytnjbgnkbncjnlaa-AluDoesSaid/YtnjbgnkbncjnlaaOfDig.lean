/-
  alu.OfDigits and alu.Digits.
-/
import Derived.Test.YtnjbgnkbncjnlaaHalves
namespace Go.Proofs.Ytnjbgnkbncjnlaa
open Go.RowKit Go.Shelf
set_option maxRecDepth 100000
set_option maxHeartbeats 1000000
set_option linter.unusedVariables false
def lim (wide : Bool) : Nat := if wide then 10000 else 100
def ofD (wide : Bool) (n : Nat) : Nat := if wide then n % 10 + 16 * (n / 10 % 10) + 256 * (n / 100 % 10) + 4096 * (n / 1000 % 10) else n % 10 + 16 * (n / 10 % 10)
theorem ofdig_neg (n : Int) (wide : Bool) (w : World) (h : n < 0) :
    Calls Try.prog 15 #[.int .i64 n, .bool wide] w fun e w' => e = .returned (.tuple #[.int .u16 0, .bool false]) ∧ Below w.heap.size w w' := by
  go_enter Try.func15, Try.ntmps15
  go_wp2_with fail
  go_ret2
  exact ⟨rfl, by first | exact Below.refl _ _ | exact (Below.refl _ _).alloc (Nat.le_refl _) _⟩
theorem ofdig_yes (n : Nat) (wide : Bool) (w : World) (h : n < lim wide) :
    Calls Try.prog 15 #[.int .i64 n, .bool wide] w fun e w' => e = .returned (.tuple #[.int .u16 (ofD wide n : Nat), .bool true]) ∧ Below w.heap.size w w' := by
  have h9 : n ≤ 10000 := by cases wide <;> (unfold lim at h) <;> simp at h <;> omega
  have T0 : decide ((n : Int) < 0) = false := decide_eq_false (by omega)
  obtain ⟨d0, hd0⟩ : ∃ d, n % 10 = d := ⟨_, rfl⟩
  obtain ⟨d1, hd1⟩ : ∃ d, n / 10 % 10 = d := ⟨_, rfl⟩
  have E0 := Lib.hid (show (n : Int) % 10 = (d0 : Nat) by omega)
  have E1 := Lib.hid (show (n : Int) / 10 % 10 = (d1 : Nat) by omega)
  cases wide
  · have hn : n < 100 := h
    have T1 : ((n : Int) / 10 / 10 != 0) = false := by rw [bne_eq_false_iff_eq]; omega
    have R : ofD false n = d0 + 16 * d1 + 256 * 0 + 4096 * 0 := by show n % 10 + 16 * (n / 10 % 10) = _; omega
    have q0 : d0 < 10 := by omega
    have q1 : d1 < 10 := by omega
    have HR := Lib.hid R.symm
    clear hd0 hd1 hn h R
    go_enter Try.func15, Try.ntmps15
    go_wp2_with fail
    refine (count_any false _).mono ?_
    rintro e w1 ⟨rfl, rfl⟩
    go_wp2_with fail
    refine wp_loop_rounds 3 ?_
    iterate 3
      rw [rounds_succ]
      go_wp2_with fail
    rw [E0.out, E1.out]
    refine (together_at d0 d1 0 0 _ _ (by omega) (by omega) (by omega) (by omega) HR.out).mono ?_
    rintro e w1 ⟨rfl, b1⟩
    go_wp2_with fail
    go_ret2
    exact ⟨rfl, ((Below.refl _ _).alloc (Nat.le_refl _) _).trans (b1.mono (by simp))⟩
  · have hn : n < 10000 := h
    obtain ⟨d2, hd2⟩ : ∃ d, n / 100 % 10 = d := ⟨_, rfl⟩
    obtain ⟨d3, hd3⟩ : ∃ d, n / 1000 % 10 = d := ⟨_, rfl⟩
    have E2 := Lib.hid (show (n : Int) / 10 / 10 % 10 = (d2 : Nat) by omega)
    have E3 := Lib.hid (show (n : Int) / 10 / 10 / 10 % 10 = (d3 : Nat) by omega)
    have T1 : ((n : Int) / 10 / 10 / 10 / 10 != 0) = false := by rw [bne_eq_false_iff_eq]; omega
    have R : ofD true n = d0 + 16 * d1 + 256 * d2 + 4096 * d3 := by show n % 10 + 16 * (n / 10 % 10) + 256 * (n / 100 % 10) + 4096 * (n / 1000 % 10) = _; omega
    have q0 : d0 < 10 := by omega
    have q1 : d1 < 10 := by omega
    have q2 : d2 < 10 := by omega
    have q3 : d3 < 10 := by omega
    have HR := Lib.hid R.symm
    clear hd0 hd1 hd2 hd3 hn h R
    go_enter Try.func15, Try.ntmps15
    go_wp2_with fail
    refine (count_any true _).mono ?_
    rintro e w1 ⟨rfl, rfl⟩
    go_wp2_with fail
    refine wp_loop_rounds 5 ?_
    iterate 5
      rw [rounds_succ]
      go_wp2_with fail
    rw [E0.out, E1.out, E2.out, E3.out]
    refine (together_at d0 d1 d2 d3 _ _ (by omega) (by omega) (by omega) (by omega) HR.out).mono ?_
    rintro e w1 ⟨rfl, b1⟩
    go_wp2_with fail
    go_ret2
    exact ⟨rfl, ((Below.refl _ _).alloc (Nat.le_refl _) _).trans (b1.mono (by simp))⟩
theorem ofdig_no (n : Nat) (wide : Bool) (w : World) (h : lim wide ≤ n) (h9 : n ≤ 9223372036854775807) :
    Calls Try.prog 15 #[.int .i64 n, .bool wide] w fun e w' => e = .returned (.tuple #[.int .u16 0, .bool false]) ∧ Below w.heap.size w w' := by
  have T0 : decide ((n : Int) < 0) = false := decide_eq_false (by omega)
  cases wide
  · have hn : 100 ≤ n := h
    have T1 : ((n : Int) / 10 / 10 != 0) = true := by rw [bne_iff_ne]; omega
    clear hn h
    go_enter Try.func15, Try.ntmps15
    go_wp2_with fail
    refine (count_any false _).mono ?_
    rintro e w1 ⟨rfl, rfl⟩
    go_wp2_with fail
    refine wp_loop_rounds 3 ?_
    iterate 3
      rw [rounds_succ]
      go_wp2_with fail
    go_ret2
    exact ⟨rfl, (Below.refl _ _).alloc (Nat.le_refl _) _⟩
  · have hn : 10000 ≤ n := h
    have T1 : ((n : Int) / 10 / 10 / 10 / 10 != 0) = true := by rw [bne_iff_ne]; omega
    clear hn h
    go_enter Try.func15, Try.ntmps15
    go_wp2_with fail
    refine (count_any true _).mono ?_
    rintro e w1 ⟨rfl, rfl⟩
    go_wp2_with fail
    refine wp_loop_rounds 5 ?_
    iterate 5
      rw [rounds_succ]
      go_wp2_with fail
    go_ret2
    exact ⟨rfl, (Below.refl _ _).alloc (Nat.le_refl _) _⟩
end Go.Proofs.Ytnjbgnkbncjnlaa

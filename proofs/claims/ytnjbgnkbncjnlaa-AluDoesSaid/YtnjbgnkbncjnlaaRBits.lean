/-
  The document's bit by bit.
-/
import Derived.Test.YtnjbgnkbncjnlaaRSmall
namespace Go.Proofs.Ytnjbgnkbncjnlaa
open Go.RowKit Go.Shelf
set_option maxRecDepth 100000
set_option maxHeartbeats 1000000
set_option linter.unusedVariables false
theorem bit_div (x k : Nat) : x / 2 ^ k % 2 = nat (x.testBit k) := by
  rw [Nat.testBit_eq_decide_div_mod_eq]
  unfold nat
  rcases Nat.mod_two_eq_zero_or_one (x / 2 ^ k) with h | h <;> rw [h] <;> rfl
theorem pow_step (k : Nat) (h : k < 16) : 2 ^ k ≤ 32768 := Nat.pow_le_pow_right (n := 2) (j := 15) (by decide) (by omega)
theorem half (a k : Nat) : a / 2 ^ k / 2 = a / 2 ^ (k + 1) := by rw [Nat.div_div_eq_div_mul, Nat.pow_succ]
def Two (kind : Int) (p q r : Bool) : Prop := r = if kind = 0 then p || q else if kind = 1 then p && q else if kind = 2 then p ^^ q else !p && q
theorem bits_0 (a b R : Nat) (w : World) (ha : a < 65536) (hb0 : b < 65536) (hR : R < 65536) (hb : ∀ k, k < 16 → R / 2 ^ k % 2 = (fun p q => if p + q = 0 then 0 else 1) (a / 2 ^ k % 2) (b / 2 ^ k % 2)) :
    Calls Try.prog 22 #[.int .i64 0, .int .i64 a, .int .i64 b] w fun e w' => e = .returned (.int .i64 R) ∧ w = w' := by
  have HB := Lib.hid hb
  clear hb
  go_enter Try.func22, Try.ntmps22
  go_wp2_with fail
  go_loop [1, 2, 7, 8, 9] (fun sa sb sx sw si => ∃ k A B X W : Nat, k ≤ 16 ∧ A < 65536 ∧ B < 65536 ∧ X ≤ 65536 ∧ W ≤ 65536 ∧ si = .int .i64 k ∧ sa = .int .i64 A ∧ sb = .int .i64 B ∧ sx = .int .i64 X ∧ sw = .int .i64 W ∧
      Hid (a / 2 ^ k = A) ∧ Hid (b / 2 ^ k = B) ∧ Hid (R % 2 ^ k = X) ∧ Hid (2 ^ k = W)) (fun _ _ _ _ si => 16 - (intOf si).toNat)
  case atStart => exact ⟨0, a, b, 0, 1, by omega, ha, hb0, by omega, by omega, rfl, rfl, rfl, rfl, rfl, Lib.hid (by simp), Lib.hid (by simp), Lib.hid (by simp [Nat.mod_one]), Lib.hid rfl⟩
  case round =>
    obtain ⟨k, A, B, X, W, hk, hAl, hBl, hXl, hWl, rfl, rfl, rfl, rfl, rfl, hA, hB, hX, hW⟩ := hrel
    by_cases hlt : k < 16
    · have hb := HB.out
      have hW2 : W ≤ 32768 := hW.out ▸ pow_step k hlt
      have hX2 : X < W := by rw [← hX.out, ← hW.out]; exact Nat.mod_lt _ (Nat.two_pow_pos k)
      obtain ⟨p, hp⟩ : ∃ p, A % 2 = p := ⟨_, rfl⟩
      obtain ⟨q, hq⟩ : ∃ q, B % 2 = q := ⟨_, rfl⟩
      have hpp : p = 0 ∨ p = 1 := by omega
      have hqq : q = 0 ∨ q = 1 := by omega
      rcases hpp with rfl | rfl <;> rcases hqq with rfl | rfl
      · have T0 : ((A : Int) % 2) = 0 := by omega
        have T1 : ((B : Int) % 2) = 0 := by omega
        have HX := Lib.hid (show R % 2 ^ (k + 1) = X + 0 * W by
          rw [Nat.mod_pow_succ, hX.out, show R / 2 ^ k % 2 = 0 from by rw [hb k hlt, hA.out, hB.out, hp, hq] <;> rfl, hW.out]; omega)
        clear hp hq
        go_wp2_with (go_at_call 35; refine (one_at _ 0 _ rfl).mono ?_; rintro e w' ⟨rfl, rfl⟩)
        go_round
        case rel => exact ⟨k + 1, A / 2, B / 2, X + 0 * W, W * 2, by omega, by omega, by omega, by omega, by omega, by go_num, by first | rfl | go_num, by first | rfl | go_num, by first | rfl | go_num, by first | rfl | go_num, Lib.hid (by rw [← hA.out, half]), Lib.hid (by rw [← hB.out, half]), HX, Lib.hid (by rw [Nat.pow_succ, hW.out])⟩
        case measure => simp [intOf]; omega
      · have T0 : ((A : Int) % 2) = 0 := by omega
        have T1 : ((B : Int) % 2) = 1 := by omega
        have HX := Lib.hid (show R % 2 ^ (k + 1) = X + 1 * W by
          rw [Nat.mod_pow_succ, hX.out, show R / 2 ^ k % 2 = 1 from by rw [hb k hlt, hA.out, hB.out, hp, hq] <;> rfl, hW.out]; omega)
        clear hp hq
        go_wp2_with (go_at_call 35; refine (one_at _ 1 _ rfl).mono ?_; rintro e w' ⟨rfl, rfl⟩)
        go_round
        case rel => exact ⟨k + 1, A / 2, B / 2, X + 1 * W, W * 2, by omega, by omega, by omega, by omega, by omega, by go_num, by first | rfl | go_num, by first | rfl | go_num, by first | rfl | go_num, by first | rfl | go_num, Lib.hid (by rw [← hA.out, half]), Lib.hid (by rw [← hB.out, half]), HX, Lib.hid (by rw [Nat.pow_succ, hW.out])⟩
        case measure => simp [intOf]; omega
      · have T0 : ((A : Int) % 2) = 1 := by omega
        have T1 : ((B : Int) % 2) = 0 := by omega
        have HX := Lib.hid (show R % 2 ^ (k + 1) = X + 1 * W by
          rw [Nat.mod_pow_succ, hX.out, show R / 2 ^ k % 2 = 1 from by rw [hb k hlt, hA.out, hB.out, hp, hq] <;> rfl, hW.out]; omega)
        clear hp hq
        go_wp2_with (go_at_call 35; refine (one_at _ 1 _ rfl).mono ?_; rintro e w' ⟨rfl, rfl⟩)
        go_round
        case rel => exact ⟨k + 1, A / 2, B / 2, X + 1 * W, W * 2, by omega, by omega, by omega, by omega, by omega, by go_num, by first | rfl | go_num, by first | rfl | go_num, by first | rfl | go_num, by first | rfl | go_num, Lib.hid (by rw [← hA.out, half]), Lib.hid (by rw [← hB.out, half]), HX, Lib.hid (by rw [Nat.pow_succ, hW.out])⟩
        case measure => simp [intOf]; omega
      · have T0 : ((A : Int) % 2) = 1 := by omega
        have T1 : ((B : Int) % 2) = 1 := by omega
        have HX := Lib.hid (show R % 2 ^ (k + 1) = X + 1 * W by
          rw [Nat.mod_pow_succ, hX.out, show R / 2 ^ k % 2 = 1 from by rw [hb k hlt, hA.out, hB.out, hp, hq] <;> rfl, hW.out]; omega)
        clear hp hq
        go_wp2_with (go_at_call 35; refine (one_at _ 1 _ rfl).mono ?_; rintro e w' ⟨rfl, rfl⟩)
        go_round
        case rel => exact ⟨k + 1, A / 2, B / 2, X + 1 * W, W * 2, by omega, by omega, by omega, by omega, by omega, by go_num, by first | rfl | go_num, by first | rfl | go_num, by first | rfl | go_num, by first | rfl | go_num, Lib.hid (by rw [← hA.out, half]), Lib.hid (by rw [← hB.out, half]), HX, Lib.hid (by rw [Nat.pow_succ, hW.out])⟩
        case measure => simp [intOf]; omega
    · obtain rfl : k = 16 := by omega
      have HE := Lib.hid (show X = R by rw [← hX.out]; exact Nat.mod_eq_of_lt hR)
      go_wp2_with fail
      go_ret
      exact ⟨by rw [show X = R from HE.out]; rfl, rfl⟩
theorem bits_1 (a b R : Nat) (w : World) (ha : a < 65536) (hb0 : b < 65536) (hR : R < 65536) (hb : ∀ k, k < 16 → R / 2 ^ k % 2 = (fun p q => p * q) (a / 2 ^ k % 2) (b / 2 ^ k % 2)) :
    Calls Try.prog 22 #[.int .i64 1, .int .i64 a, .int .i64 b] w fun e w' => e = .returned (.int .i64 R) ∧ w = w' := by
  have HB := Lib.hid hb
  clear hb
  go_enter Try.func22, Try.ntmps22
  go_wp2_with fail
  go_loop [1, 2, 7, 8, 9] (fun sa sb sx sw si => ∃ k A B X W : Nat, k ≤ 16 ∧ A < 65536 ∧ B < 65536 ∧ X ≤ 65536 ∧ W ≤ 65536 ∧ si = .int .i64 k ∧ sa = .int .i64 A ∧ sb = .int .i64 B ∧ sx = .int .i64 X ∧ sw = .int .i64 W ∧
      Hid (a / 2 ^ k = A) ∧ Hid (b / 2 ^ k = B) ∧ Hid (R % 2 ^ k = X) ∧ Hid (2 ^ k = W)) (fun _ _ _ _ si => 16 - (intOf si).toNat)
  case atStart => exact ⟨0, a, b, 0, 1, by omega, ha, hb0, by omega, by omega, rfl, rfl, rfl, rfl, rfl, Lib.hid (by simp), Lib.hid (by simp), Lib.hid (by simp [Nat.mod_one]), Lib.hid rfl⟩
  case round =>
    obtain ⟨k, A, B, X, W, hk, hAl, hBl, hXl, hWl, rfl, rfl, rfl, rfl, rfl, hA, hB, hX, hW⟩ := hrel
    by_cases hlt : k < 16
    · have hb := HB.out
      have hW2 : W ≤ 32768 := hW.out ▸ pow_step k hlt
      have hX2 : X < W := by rw [← hX.out, ← hW.out]; exact Nat.mod_lt _ (Nat.two_pow_pos k)
      obtain ⟨p, hp⟩ : ∃ p, A % 2 = p := ⟨_, rfl⟩
      obtain ⟨q, hq⟩ : ∃ q, B % 2 = q := ⟨_, rfl⟩
      have hpp : p = 0 ∨ p = 1 := by omega
      have hqq : q = 0 ∨ q = 1 := by omega
      rcases hpp with rfl | rfl <;> rcases hqq with rfl | rfl
      · have T0 : ((A : Int) % 2) = 0 := by omega
        have T1 : ((B : Int) % 2) = 0 := by omega
        have HX := Lib.hid (show R % 2 ^ (k + 1) = X + 0 * W by
          rw [Nat.mod_pow_succ, hX.out, show R / 2 ^ k % 2 = 0 from by rw [hb k hlt, hA.out, hB.out, hp, hq] <;> rfl, hW.out]; omega)
        clear hp hq
        go_wp2_with (go_at_call 35; refine (one_at _ 0 _ rfl).mono ?_; rintro e w' ⟨rfl, rfl⟩)
        go_round
        case rel => exact ⟨k + 1, A / 2, B / 2, X + 0 * W, W * 2, by omega, by omega, by omega, by omega, by omega, by go_num, by first | rfl | go_num, by first | rfl | go_num, by first | rfl | go_num, by first | rfl | go_num, Lib.hid (by rw [← hA.out, half]), Lib.hid (by rw [← hB.out, half]), HX, Lib.hid (by rw [Nat.pow_succ, hW.out])⟩
        case measure => simp [intOf]; omega
      · have T0 : ((A : Int) % 2) = 0 := by omega
        have T1 : ((B : Int) % 2) = 1 := by omega
        have HX := Lib.hid (show R % 2 ^ (k + 1) = X + 0 * W by
          rw [Nat.mod_pow_succ, hX.out, show R / 2 ^ k % 2 = 0 from by rw [hb k hlt, hA.out, hB.out, hp, hq] <;> rfl, hW.out]; omega)
        clear hp hq
        go_wp2_with (go_at_call 35; refine (one_at _ 0 _ rfl).mono ?_; rintro e w' ⟨rfl, rfl⟩)
        go_round
        case rel => exact ⟨k + 1, A / 2, B / 2, X + 0 * W, W * 2, by omega, by omega, by omega, by omega, by omega, by go_num, by first | rfl | go_num, by first | rfl | go_num, by first | rfl | go_num, by first | rfl | go_num, Lib.hid (by rw [← hA.out, half]), Lib.hid (by rw [← hB.out, half]), HX, Lib.hid (by rw [Nat.pow_succ, hW.out])⟩
        case measure => simp [intOf]; omega
      · have T0 : ((A : Int) % 2) = 1 := by omega
        have T1 : ((B : Int) % 2) = 0 := by omega
        have HX := Lib.hid (show R % 2 ^ (k + 1) = X + 0 * W by
          rw [Nat.mod_pow_succ, hX.out, show R / 2 ^ k % 2 = 0 from by rw [hb k hlt, hA.out, hB.out, hp, hq] <;> rfl, hW.out]; omega)
        clear hp hq
        go_wp2_with (go_at_call 35; refine (one_at _ 0 _ rfl).mono ?_; rintro e w' ⟨rfl, rfl⟩)
        go_round
        case rel => exact ⟨k + 1, A / 2, B / 2, X + 0 * W, W * 2, by omega, by omega, by omega, by omega, by omega, by go_num, by first | rfl | go_num, by first | rfl | go_num, by first | rfl | go_num, by first | rfl | go_num, Lib.hid (by rw [← hA.out, half]), Lib.hid (by rw [← hB.out, half]), HX, Lib.hid (by rw [Nat.pow_succ, hW.out])⟩
        case measure => simp [intOf]; omega
      · have T0 : ((A : Int) % 2) = 1 := by omega
        have T1 : ((B : Int) % 2) = 1 := by omega
        have HX := Lib.hid (show R % 2 ^ (k + 1) = X + 1 * W by
          rw [Nat.mod_pow_succ, hX.out, show R / 2 ^ k % 2 = 1 from by rw [hb k hlt, hA.out, hB.out, hp, hq] <;> rfl, hW.out]; omega)
        clear hp hq
        go_wp2_with (go_at_call 35; refine (one_at _ 1 _ rfl).mono ?_; rintro e w' ⟨rfl, rfl⟩)
        go_round
        case rel => exact ⟨k + 1, A / 2, B / 2, X + 1 * W, W * 2, by omega, by omega, by omega, by omega, by omega, by go_num, by first | rfl | go_num, by first | rfl | go_num, by first | rfl | go_num, by first | rfl | go_num, Lib.hid (by rw [← hA.out, half]), Lib.hid (by rw [← hB.out, half]), HX, Lib.hid (by rw [Nat.pow_succ, hW.out])⟩
        case measure => simp [intOf]; omega
    · obtain rfl : k = 16 := by omega
      have HE := Lib.hid (show X = R by rw [← hX.out]; exact Nat.mod_eq_of_lt hR)
      go_wp2_with fail
      go_ret
      exact ⟨by rw [show X = R from HE.out]; rfl, rfl⟩
theorem bits_2 (a b R : Nat) (w : World) (ha : a < 65536) (hb0 : b < 65536) (hR : R < 65536) (hb : ∀ k, k < 16 → R / 2 ^ k % 2 = (fun p q => (p + q) % 2) (a / 2 ^ k % 2) (b / 2 ^ k % 2)) :
    Calls Try.prog 22 #[.int .i64 2, .int .i64 a, .int .i64 b] w fun e w' => e = .returned (.int .i64 R) ∧ w = w' := by
  have HB := Lib.hid hb
  clear hb
  go_enter Try.func22, Try.ntmps22
  go_wp2_with fail
  go_loop [1, 2, 7, 8, 9] (fun sa sb sx sw si => ∃ k A B X W : Nat, k ≤ 16 ∧ A < 65536 ∧ B < 65536 ∧ X ≤ 65536 ∧ W ≤ 65536 ∧ si = .int .i64 k ∧ sa = .int .i64 A ∧ sb = .int .i64 B ∧ sx = .int .i64 X ∧ sw = .int .i64 W ∧
      Hid (a / 2 ^ k = A) ∧ Hid (b / 2 ^ k = B) ∧ Hid (R % 2 ^ k = X) ∧ Hid (2 ^ k = W)) (fun _ _ _ _ si => 16 - (intOf si).toNat)
  case atStart => exact ⟨0, a, b, 0, 1, by omega, ha, hb0, by omega, by omega, rfl, rfl, rfl, rfl, rfl, Lib.hid (by simp), Lib.hid (by simp), Lib.hid (by simp [Nat.mod_one]), Lib.hid rfl⟩
  case round =>
    obtain ⟨k, A, B, X, W, hk, hAl, hBl, hXl, hWl, rfl, rfl, rfl, rfl, rfl, hA, hB, hX, hW⟩ := hrel
    by_cases hlt : k < 16
    · have hb := HB.out
      have hW2 : W ≤ 32768 := hW.out ▸ pow_step k hlt
      have hX2 : X < W := by rw [← hX.out, ← hW.out]; exact Nat.mod_lt _ (Nat.two_pow_pos k)
      obtain ⟨p, hp⟩ : ∃ p, A % 2 = p := ⟨_, rfl⟩
      obtain ⟨q, hq⟩ : ∃ q, B % 2 = q := ⟨_, rfl⟩
      have hpp : p = 0 ∨ p = 1 := by omega
      have hqq : q = 0 ∨ q = 1 := by omega
      rcases hpp with rfl | rfl <;> rcases hqq with rfl | rfl
      · have T0 : ((A : Int) % 2) = 0 := by omega
        have T1 : ((B : Int) % 2) = 0 := by omega
        have HX := Lib.hid (show R % 2 ^ (k + 1) = X + 0 * W by
          rw [Nat.mod_pow_succ, hX.out, show R / 2 ^ k % 2 = 0 from by rw [hb k hlt, hA.out, hB.out, hp, hq] <;> rfl, hW.out]; omega)
        clear hp hq
        go_wp2_with (go_at_call 35; refine (one_at _ 0 _ rfl).mono ?_; rintro e w' ⟨rfl, rfl⟩)
        go_round
        case rel => exact ⟨k + 1, A / 2, B / 2, X + 0 * W, W * 2, by omega, by omega, by omega, by omega, by omega, by go_num, by first | rfl | go_num, by first | rfl | go_num, by first | rfl | go_num, by first | rfl | go_num, Lib.hid (by rw [← hA.out, half]), Lib.hid (by rw [← hB.out, half]), HX, Lib.hid (by rw [Nat.pow_succ, hW.out])⟩
        case measure => simp [intOf]; omega
      · have T0 : ((A : Int) % 2) = 0 := by omega
        have T1 : ((B : Int) % 2) = 1 := by omega
        have HX := Lib.hid (show R % 2 ^ (k + 1) = X + 1 * W by
          rw [Nat.mod_pow_succ, hX.out, show R / 2 ^ k % 2 = 1 from by rw [hb k hlt, hA.out, hB.out, hp, hq] <;> rfl, hW.out]; omega)
        clear hp hq
        go_wp2_with (go_at_call 35; refine (one_at _ 1 _ rfl).mono ?_; rintro e w' ⟨rfl, rfl⟩)
        go_round
        case rel => exact ⟨k + 1, A / 2, B / 2, X + 1 * W, W * 2, by omega, by omega, by omega, by omega, by omega, by go_num, by first | rfl | go_num, by first | rfl | go_num, by first | rfl | go_num, by first | rfl | go_num, Lib.hid (by rw [← hA.out, half]), Lib.hid (by rw [← hB.out, half]), HX, Lib.hid (by rw [Nat.pow_succ, hW.out])⟩
        case measure => simp [intOf]; omega
      · have T0 : ((A : Int) % 2) = 1 := by omega
        have T1 : ((B : Int) % 2) = 0 := by omega
        have HX := Lib.hid (show R % 2 ^ (k + 1) = X + 1 * W by
          rw [Nat.mod_pow_succ, hX.out, show R / 2 ^ k % 2 = 1 from by rw [hb k hlt, hA.out, hB.out, hp, hq] <;> rfl, hW.out]; omega)
        clear hp hq
        go_wp2_with (go_at_call 35; refine (one_at _ 1 _ rfl).mono ?_; rintro e w' ⟨rfl, rfl⟩)
        go_round
        case rel => exact ⟨k + 1, A / 2, B / 2, X + 1 * W, W * 2, by omega, by omega, by omega, by omega, by omega, by go_num, by first | rfl | go_num, by first | rfl | go_num, by first | rfl | go_num, by first | rfl | go_num, Lib.hid (by rw [← hA.out, half]), Lib.hid (by rw [← hB.out, half]), HX, Lib.hid (by rw [Nat.pow_succ, hW.out])⟩
        case measure => simp [intOf]; omega
      · have T0 : ((A : Int) % 2) = 1 := by omega
        have T1 : ((B : Int) % 2) = 1 := by omega
        have HX := Lib.hid (show R % 2 ^ (k + 1) = X + 0 * W by
          rw [Nat.mod_pow_succ, hX.out, show R / 2 ^ k % 2 = 0 from by rw [hb k hlt, hA.out, hB.out, hp, hq] <;> rfl, hW.out]; omega)
        clear hp hq
        go_wp2_with (go_at_call 35; refine (one_at _ 0 _ rfl).mono ?_; rintro e w' ⟨rfl, rfl⟩)
        go_round
        case rel => exact ⟨k + 1, A / 2, B / 2, X + 0 * W, W * 2, by omega, by omega, by omega, by omega, by omega, by go_num, by first | rfl | go_num, by first | rfl | go_num, by first | rfl | go_num, by first | rfl | go_num, Lib.hid (by rw [← hA.out, half]), Lib.hid (by rw [← hB.out, half]), HX, Lib.hid (by rw [Nat.pow_succ, hW.out])⟩
        case measure => simp [intOf]; omega
    · obtain rfl : k = 16 := by omega
      have HE := Lib.hid (show X = R by rw [← hX.out]; exact Nat.mod_eq_of_lt hR)
      go_wp2_with fail
      go_ret
      exact ⟨by rw [show X = R from HE.out]; rfl, rfl⟩
theorem bits_3 (a b R : Nat) (w : World) (ha : a < 65536) (hb0 : b < 65536) (hR : R < 65536) (hb : ∀ k, k < 16 → R / 2 ^ k % 2 = (fun p q => (1 - p) * q) (a / 2 ^ k % 2) (b / 2 ^ k % 2)) :
    Calls Try.prog 22 #[.int .i64 3, .int .i64 a, .int .i64 b] w fun e w' => e = .returned (.int .i64 R) ∧ w = w' := by
  have HB := Lib.hid hb
  clear hb
  go_enter Try.func22, Try.ntmps22
  go_wp2_with fail
  go_loop [1, 2, 7, 8, 9] (fun sa sb sx sw si => ∃ k A B X W : Nat, k ≤ 16 ∧ A < 65536 ∧ B < 65536 ∧ X ≤ 65536 ∧ W ≤ 65536 ∧ si = .int .i64 k ∧ sa = .int .i64 A ∧ sb = .int .i64 B ∧ sx = .int .i64 X ∧ sw = .int .i64 W ∧
      Hid (a / 2 ^ k = A) ∧ Hid (b / 2 ^ k = B) ∧ Hid (R % 2 ^ k = X) ∧ Hid (2 ^ k = W)) (fun _ _ _ _ si => 16 - (intOf si).toNat)
  case atStart => exact ⟨0, a, b, 0, 1, by omega, ha, hb0, by omega, by omega, rfl, rfl, rfl, rfl, rfl, Lib.hid (by simp), Lib.hid (by simp), Lib.hid (by simp [Nat.mod_one]), Lib.hid rfl⟩
  case round =>
    obtain ⟨k, A, B, X, W, hk, hAl, hBl, hXl, hWl, rfl, rfl, rfl, rfl, rfl, hA, hB, hX, hW⟩ := hrel
    by_cases hlt : k < 16
    · have hb := HB.out
      have hW2 : W ≤ 32768 := hW.out ▸ pow_step k hlt
      have hX2 : X < W := by rw [← hX.out, ← hW.out]; exact Nat.mod_lt _ (Nat.two_pow_pos k)
      obtain ⟨p, hp⟩ : ∃ p, A % 2 = p := ⟨_, rfl⟩
      obtain ⟨q, hq⟩ : ∃ q, B % 2 = q := ⟨_, rfl⟩
      have hpp : p = 0 ∨ p = 1 := by omega
      have hqq : q = 0 ∨ q = 1 := by omega
      rcases hpp with rfl | rfl <;> rcases hqq with rfl | rfl
      · have T0 : ((A : Int) % 2) = 0 := by omega
        have T1 : ((B : Int) % 2) = 0 := by omega
        have HX := Lib.hid (show R % 2 ^ (k + 1) = X + 0 * W by
          rw [Nat.mod_pow_succ, hX.out, show R / 2 ^ k % 2 = 0 from by rw [hb k hlt, hA.out, hB.out, hp, hq] <;> rfl, hW.out]; omega)
        clear hp hq
        go_wp2_with (go_at_call 35; refine (one_at _ 0 _ rfl).mono ?_; rintro e w' ⟨rfl, rfl⟩)
        go_round
        case rel => exact ⟨k + 1, A / 2, B / 2, X + 0 * W, W * 2, by omega, by omega, by omega, by omega, by omega, by go_num, by first | rfl | go_num, by first | rfl | go_num, by first | rfl | go_num, by first | rfl | go_num, Lib.hid (by rw [← hA.out, half]), Lib.hid (by rw [← hB.out, half]), HX, Lib.hid (by rw [Nat.pow_succ, hW.out])⟩
        case measure => simp [intOf]; omega
      · have T0 : ((A : Int) % 2) = 0 := by omega
        have T1 : ((B : Int) % 2) = 1 := by omega
        have HX := Lib.hid (show R % 2 ^ (k + 1) = X + 1 * W by
          rw [Nat.mod_pow_succ, hX.out, show R / 2 ^ k % 2 = 1 from by rw [hb k hlt, hA.out, hB.out, hp, hq] <;> rfl, hW.out]; omega)
        clear hp hq
        go_wp2_with (go_at_call 35; refine (one_at _ 1 _ rfl).mono ?_; rintro e w' ⟨rfl, rfl⟩)
        go_round
        case rel => exact ⟨k + 1, A / 2, B / 2, X + 1 * W, W * 2, by omega, by omega, by omega, by omega, by omega, by go_num, by first | rfl | go_num, by first | rfl | go_num, by first | rfl | go_num, by first | rfl | go_num, Lib.hid (by rw [← hA.out, half]), Lib.hid (by rw [← hB.out, half]), HX, Lib.hid (by rw [Nat.pow_succ, hW.out])⟩
        case measure => simp [intOf]; omega
      · have T0 : ((A : Int) % 2) = 1 := by omega
        have T1 : ((B : Int) % 2) = 0 := by omega
        have HX := Lib.hid (show R % 2 ^ (k + 1) = X + 0 * W by
          rw [Nat.mod_pow_succ, hX.out, show R / 2 ^ k % 2 = 0 from by rw [hb k hlt, hA.out, hB.out, hp, hq] <;> rfl, hW.out]; omega)
        clear hp hq
        go_wp2_with (go_at_call 35; refine (one_at _ 0 _ rfl).mono ?_; rintro e w' ⟨rfl, rfl⟩)
        go_round
        case rel => exact ⟨k + 1, A / 2, B / 2, X + 0 * W, W * 2, by omega, by omega, by omega, by omega, by omega, by go_num, by first | rfl | go_num, by first | rfl | go_num, by first | rfl | go_num, by first | rfl | go_num, Lib.hid (by rw [← hA.out, half]), Lib.hid (by rw [← hB.out, half]), HX, Lib.hid (by rw [Nat.pow_succ, hW.out])⟩
        case measure => simp [intOf]; omega
      · have T0 : ((A : Int) % 2) = 1 := by omega
        have T1 : ((B : Int) % 2) = 1 := by omega
        have HX := Lib.hid (show R % 2 ^ (k + 1) = X + 0 * W by
          rw [Nat.mod_pow_succ, hX.out, show R / 2 ^ k % 2 = 0 from by rw [hb k hlt, hA.out, hB.out, hp, hq] <;> rfl, hW.out]; omega)
        clear hp hq
        go_wp2_with (go_at_call 35; refine (one_at _ 0 _ rfl).mono ?_; rintro e w' ⟨rfl, rfl⟩)
        go_round
        case rel => exact ⟨k + 1, A / 2, B / 2, X + 0 * W, W * 2, by omega, by omega, by omega, by omega, by omega, by go_num, by first | rfl | go_num, by first | rfl | go_num, by first | rfl | go_num, by first | rfl | go_num, Lib.hid (by rw [← hA.out, half]), Lib.hid (by rw [← hB.out, half]), HX, Lib.hid (by rw [Nat.pow_succ, hW.out])⟩
        case measure => simp [intOf]; omega
    · obtain rfl : k = 16 := by omega
      have HE := Lib.hid (show X = R by rw [← hX.out]; exact Nat.mod_eq_of_lt hR)
      go_wp2_with fail
      go_ret
      exact ⟨by rw [show X = R from HE.out]; rfl, rfl⟩
end Go.Proofs.Ytnjbgnkbncjnlaa

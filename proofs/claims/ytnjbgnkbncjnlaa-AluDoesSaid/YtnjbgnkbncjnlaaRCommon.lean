/-
  The document's bit by bit: what it comes to; bits in common.
-/
import Derived.Test.YtnjbgnkbncjnlaaRBits
namespace Go.Proofs.Ytnjbgnkbncjnlaa
open Go.RowKit Go.Shelf
set_option maxRecDepth 100000
set_option maxHeartbeats 1000000
set_option linter.unusedVariables false
theorem bits_or (a b x : Nat) (w : World) (ha : a < 65536) (hb : b < 65536) (hx : a ||| b = x) : Calls Try.prog 22 #[.int .i64 0, .int .i64 a, .int .i64 b] w fun e w' => e = .returned (.int .i64 x) ∧ w = w' := by
  subst hx
  refine bits_0 a b _ w ha hb (Nat.or_lt_two_pow (n := 16) ha hb) (fun k hk => ?_)
  simp only [bit_div, Nat.testBit_or]
  cases a.testBit k <;> cases b.testBit k <;> rfl
theorem bits_and (a b x : Nat) (w : World) (ha : a < 65536) (hb : b < 65536) (hx : a &&& b = x) : Calls Try.prog 22 #[.int .i64 1, .int .i64 a, .int .i64 b] w fun e w' => e = .returned (.int .i64 x) ∧ w = w' := by
  subst hx
  refine bits_1 a b _ w ha hb (Nat.and_lt_two_pow (n := 16) _ hb) (fun k hk => ?_)
  simp only [bit_div, Nat.testBit_and]
  cases a.testBit k <;> cases b.testBit k <;> rfl
theorem bits_xor (a b x : Nat) (w : World) (ha : a < 65536) (hb : b < 65536) (hx : a ^^^ b = x) : Calls Try.prog 22 #[.int .i64 2, .int .i64 a, .int .i64 b] w fun e w' => e = .returned (.int .i64 x) ∧ w = w' := by
  subst hx
  refine bits_2 a b _ w ha hb (Nat.xor_lt_two_pow (n := 16) ha hb) (fun k hk => ?_)
  simp only [bit_div, Nat.testBit_xor]
  cases a.testBit k <;> cases b.testBit k <;> rfl
theorem bits_not (a b x : Nat) (w : World) (ha : a < 65536) (hb : b < 65536) (hx : b &&& (65535 - a) = x) : Calls Try.prog 22 #[.int .i64 3, .int .i64 a, .int .i64 b] w fun e w' => e = .returned (.int .i64 x) ∧ w = w' := by
  subst hx
  refine bits_3 a b _ w ha hb (Nat.lt_of_le_of_lt Nat.and_le_left hb) (fun k hk => ?_)
  have e : (65535 - a).testBit k = !a.testBit k := by
    have := Nat.testBit_two_pow_sub_succ (n := 16) (x := a) ha k
    rw [show 65535 - a = 2 ^ 16 - (a + 1) by omega, this, decide_eq_true hk]
    rfl
  simp only [bit_div, Nat.testBit_and, e]
  cases a.testBit k <;> cases b.testBit k <;> rfl
theorem no_common (a b : Nat) (ha : a < 65536) (h : ∀ j, j < 16 → ¬ (a / 2 ^ j % 2 = 1 ∧ b / 2 ^ j % 2 = 1)) : (a &&& b == 0) = true := by
  rw [beq_iff_eq]
  apply Nat.eq_of_testBit_eq
  intro i
  rw [Nat.testBit_and, Nat.zero_testBit]
  by_cases hi : i < 16
  · have := h i hi
    rw [bit_div, bit_div] at this
    cases h1 : a.testBit i <;> cases h2 : b.testBit i <;> rw [h1, h2] at this <;> first | rfl | exact absurd ⟨rfl, rfl⟩ this
  · rw [Nat.testBit_lt_two_pow (Nat.lt_of_lt_of_le ha (show 2 ^ 16 ≤ 2 ^ i from Nat.pow_le_pow_right (by decide) (by omega)))]
    rfl
theorem has_common (a b j : Nat) (h : a / 2 ^ j % 2 = 1 ∧ b / 2 ^ j % 2 = 1) : (a &&& b == 0) = false := by
  rw [beq_eq_false_iff_ne]
  intro h0
  have : (a &&& b).testBit j = true := by
    rw [Nat.testBit_and]
    rw [bit_div, bit_div] at h
    cases h1 : a.testBit j <;> cases h2 : b.testBit j <;> rw [h1, h2] at h <;> first | rfl | (simp [nat] at h)
  rw [h0, Nat.zero_testBit] at this
  cases this
theorem common_at (a b : Nat) (t : Bool) (w : World) (ha : a < 65536) (hb : b < 65536) (ht : (a &&& b == 0) = t) :
    Calls Try.prog 37 #[.int .i64 a, .int .i64 b] w fun e w' => e = .returned (.bool (!t)) ∧ w = w' := by
  have HT := Lib.hid ht
  clear ht
  go_enter Try.func37, Try.ntmps37
  go_wp2_with fail
  go_loop [0, 1, 5] (fun sa sb si => ∃ k A B : Nat, k ≤ 16 ∧ A < 65536 ∧ B < 65536 ∧ si = .int .i64 k ∧ sa = .int .i64 A ∧ sb = .int .i64 B ∧
      Hid (a / 2 ^ k = A) ∧ Hid (b / 2 ^ k = B) ∧ Hid (∀ j, j < k → ¬ (a / 2 ^ j % 2 = 1 ∧ b / 2 ^ j % 2 = 1))) (fun _ _ si => 16 - (intOf si).toNat)
  case atStart => exact ⟨0, a, b, by omega, ha, hb, rfl, rfl, rfl, Lib.hid (by simp), Lib.hid (by simp), Lib.hid (fun j hj => absurd hj (Nat.not_lt_zero j))⟩
  case round =>
    obtain ⟨k, A, B, hk, hAl, hBl, rfl, rfl, rfl, hA, hB, hN⟩ := hrel
    by_cases hlt : k < 16
    · by_cases hc : A % 2 = 1 ∧ B % 2 = 1
      · have T1 : ((A : Int) % 2 == 1) = true := by rw [beq_iff_eq]; omega
        have T2 : ((B : Int) % 2 == 1) = true := by rw [beq_iff_eq]; omega
        have HE := Lib.hid (show t = false from HT.out ▸ has_common a b k ⟨hA.out ▸ hc.1, hB.out ▸ hc.2⟩)
        clear hc
        go_wp2_with fail
        go_ret
        exact ⟨by rw [HE.out]; rfl, rfl⟩
      · have HN2 := Lib.hid (show ∀ j, j < k + 1 → ¬ (a / 2 ^ j % 2 = 1 ∧ b / 2 ^ j % 2 = 1) from fun j hj => by
          by_cases hj2 : j = k
          · subst hj2
            rw [hA.out, hB.out]
            exact hc
          · exact hN.out j (by omega))
        by_cases h1 : A % 2 = 1
        · have T1 : ((A : Int) % 2 == 1) = true := by rw [beq_iff_eq]; omega
          have T2 : ((B : Int) % 2 == 1) = false := by rw [beq_eq_false_iff_ne]; omega
          clear hc h1
          go_wp2_with fail
          go_round
          case rel => exact ⟨k + 1, A / 2, B / 2, by omega, by omega, by omega, by go_num, by first | rfl | go_num, by first | rfl | go_num, Lib.hid (by rw [← hA.out, half]), Lib.hid (by rw [← hB.out, half]), HN2⟩
          case measure => simp [intOf]; omega
        · have T1 : ((A : Int) % 2 == 1) = false := by rw [beq_eq_false_iff_ne]; omega
          clear hc h1
          go_wp2_with fail
          go_round
          case rel => exact ⟨k + 1, A / 2, B / 2, by omega, by omega, by omega, by go_num, by first | rfl | go_num, by first | rfl | go_num, Lib.hid (by rw [← hA.out, half]), Lib.hid (by rw [← hB.out, half]), HN2⟩
          case measure => simp [intOf]; omega
    · obtain rfl : k = 16 := by omega
      have HE := Lib.hid (show t = true from HT.out ▸ no_common a b ha hN.out)
      go_wp2_with fail
      go_ret
      exact ⟨by rw [HE.out]; rfl, rfl⟩
end Go.Proofs.Ytnjbgnkbncjnlaa

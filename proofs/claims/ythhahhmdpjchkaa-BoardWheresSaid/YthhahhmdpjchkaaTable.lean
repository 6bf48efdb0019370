/-
  The rows of a layout's table: which banks and places they hold, and which byte.
-/
import Derived.Test.YthhahhmdpjchkaaMem
import Derived.Test.YthhahhmdpjchkaaSpot
namespace Go.Proofs.Ythhahhmdpjchkaa
open Go.RowKit Go.Shelf
set_option maxRecDepth 100000
set_option maxHeartbeats 1000000

theorem ret_int {k : IntKind} {x y : Int} (h : x = y) : Ending.returned (.int k x) = Ending.returned (.int k y) := by rw [h]
theorem ret_bool {x y : Bool} (h : x = y) : Ending.returned (.bool x) = Ending.returned (.bool y) := by rw [h]
theorem ofInt_nat (a : Nat) (ha : a < 9223372036854775808) : (BitVec.ofInt 64 (a : Int)).toNat = a := by
  rw [BitVec.toNat_ofInt]
  omega
theorem i64_and_nat (a b : Nat) (ha : a < 9223372036854775808) (hb : b < 9223372036854775808) : bits .and .i64 (a : Int) (b : Int) = ((a &&& b : Nat) : Int) := by
  have hx : a &&& b < 2 ^ 63 := Nat.and_lt_two_pow _ (by omega)
  show IntKind.i64.wrap ((BitVec.ofInt 64 (a : Int) &&& BitVec.ofInt 64 (b : Int)).toNat : Int) = _
  rw [BitVec.toNat_and, ofInt_nat a ha, ofInt_nat b hb, IntKind.wrap_i64]
  omega
theorem and112 : ∀ b : Nat, b < 256 → ((b &&& 112) == 112) = decide (b / 16 % 8 = 7) := by decide
theorem and96 : ∀ b : Nat, b < 256 → ((b &&& 96) == 32) = decide (b / 32 % 4 = 1) := by decide
theorem and64 : ∀ b : Nat, b < 256 → ((b &&& 64) == 0) = !decide (b / 64 % 2 = 1) := by decide
theorem and15 : ∀ b : Nat, b < 256 → (b &&& 15) = b % 16 := by decide
theorem and31 : ∀ b : Nat, b < 256 → (b &&& 31) = b % 32 := by decide
theorem and63 : ∀ b : Nat, b < 256 → (b &&& 63) = b % 64 := by decide
theorem and127 : ∀ b : Nat, b < 256 → (b &&& 127) = b % 128 := by decide

theorem lo1 (b p : Nat) (w : World) (hb : b < 256) :
    Calls Try.prog 39 #[.int .i64 b, .int .i64 p] w fun e w' => e = .returned (.bool (ramHolds 1 b p)) ∧ w' = w := by
  have e0 := i64_and_nat b 112 (by omega) (by omega)
  rw [show ((112 : Nat) : Int) = 112 from rfl] at e0
  have e1 := and112 b hb
  by_cases h : b / 16 % 8 = 7
  · rw [decide_eq_true h, beq_iff_eq] at e1
    rw [e1, show ((112 : Nat) : Int) = 112 from rfl] at e0
    clear e1
    go_enter Try.func39, Try.ntmps39
    go_wp2
    go_ret
    exact ⟨by simp [ramHolds, h]; omega, rfl⟩
  · rw [decide_eq_false h, beq_eq_false_iff_ne] at e1
    have e2 : (bits .and .i64 (b : Int) 112 == 112) = false := by rw [e0, beq_eq_false_iff_ne]; omega
    clear e0 e1
    go_enter Try.func39, Try.ntmps39
    go_wp2
    go_ret
    exact ⟨by simp [ramHolds, h], rfl⟩
theorem lo2 (b p : Nat) (w : World) (hb : b < 256) (hp : p < 65536) :
    Calls Try.prog 40 #[.int .i64 b, .int .i64 p] w fun e w' => e = .returned (.int .i64 (ramAt 1 b p : Nat)) ∧ w' = w := by
  have e0 := i64_and_nat b 15 (by omega) (by omega)
  rw [show ((15 : Nat) : Int) = 15 from rfl, and15 b hb] at e0
  have hx : b % 16 < 16 := Nat.mod_lt _ (by decide)
  have hr : ramAt 1 b p = b % 16 * 32768 + p := rfl
  rw [hr]
  generalize b % 16 = x at *
  go_enter Try.func40, Try.ntmps40
  go_wp2
  go_ret
  refine ⟨?_, rfl⟩
  exact ret_int (by omega)
theorem lo3 (b p : Nat) (w : World) :
    Calls Try.prog 41 #[.int .i64 b, .int .i64 p] w fun e w' => e = .returned (.bool (romHolds 1 b p)) ∧ w' = w := by
  go_enter Try.func41, Try.ntmps41
  go_wp2
  go_ret
  refine ⟨?_, rfl⟩
  exact ret_bool (decide_eq_decide.2 (by omega))
theorem lo4 (b p : Nat) (w : World) (hb : b < 256) (hp : p < 65536) (h : romHolds 1 b p = true) :
    Calls Try.prog 42 #[.int .i64 b, .int .i64 p] w fun e w' => e = .returned (.int .i64 (romAt 1 b p : Nat)) ∧ w' = w := by
  have e0 := i64_and_nat b 127 (by omega) (by omega)
  rw [show ((127 : Nat) : Int) = 127 from rfl, and127 b hb] at e0
  have hx : b % 128 < 128 := Nat.mod_lt _ (by decide)
  have hr : romAt 1 b p = b % 128 * 32768 + p - 32768 := rfl
  have h2 := Lib.hid (show 32768 ≤ p by simpa [romHolds] using h)
  clear h
  rw [hr]
  generalize b % 128 = x at *
  go_enter Try.func42, Try.ntmps42
  go_wp2
  go_ret
  refine ⟨?_, rfl⟩
  have h2 := h2.out
  exact ret_int (by omega)
theorem hi1 (l b p : Nat) (w : World) (hl : l ≠ 1) (hb : b < 256) :
    Calls Try.prog 43 #[.int .i64 b, .int .i64 p] w fun e w' => e = .returned (.bool (ramHolds l b p)) ∧ w' = w := by
  have e0 := i64_and_nat b 96 (by omega) (by omega)
  rw [show ((96 : Nat) : Int) = 96 from rfl] at e0
  have e1 := and96 b hb
  have hr : ramHolds l b p = decide (b / 32 % 4 = 1 ∧ 24576 ≤ p ∧ p < 32768) := if_neg hl
  rw [hr]
  clear hr
  by_cases h : b / 32 % 4 = 1
  · rw [decide_eq_true h, beq_iff_eq] at e1
    rw [e1, show ((32 : Nat) : Int) = 32 from rfl] at e0
    clear e1
    by_cases h2 : 24576 ≤ p
    · have h3 : (24576 : Int) ≤ (p : Int) := by omega
      go_enter Try.func43, Try.ntmps43
      go_wp2
      go_ret
      refine ⟨?_, rfl⟩
      exact ret_bool (decide_eq_decide.2 (by omega))
    · have h3 : ¬ (24576 : Int) ≤ (p : Int) := by omega
      go_enter Try.func43, Try.ntmps43
      go_wp2
      go_ret
      exact ⟨rfl, rfl⟩
  · rw [decide_eq_false h, beq_eq_false_iff_ne] at e1
    have e2 : (bits .and .i64 (b : Int) 96 == 32) = false := by rw [e0, beq_eq_false_iff_ne]; omega
    clear e0 e1
    go_enter Try.func43, Try.ntmps43
    go_wp2
    go_ret
    exact ⟨by simp [h], rfl⟩
theorem hi2 (l b p : Nat) (w : World) (hl : l ≠ 1) (hb : b < 256) (hp : p < 65536) (h : ramHolds l b p = true) :
    Calls Try.prog 44 #[.int .i64 b, .int .i64 p] w fun e w' => e = .returned (.int .i64 (ramAt l b p : Nat)) ∧ w' = w := by
  have e0 := i64_and_nat b 31 (by omega) (by omega)
  rw [show ((31 : Nat) : Int) = 31 from rfl, and31 b hb] at e0
  have hx : b % 32 < 32 := Nat.mod_lt _ (by decide)
  have hr : ramAt l b p = b % 32 * 8192 + p - 24576 := if_neg hl
  have h2 : b / 32 % 4 = 1 ∧ 24576 ≤ p ∧ p < 32768 := by simpa [ramHolds, hl] using h
  rw [hr]
  generalize b % 32 = x at *
  go_enter Try.func44, Try.ntmps44
  go_wp2
  go_ret
  refine ⟨?_, rfl⟩
  exact ret_int (by omega)
theorem hi3 (l b p : Nat) (w : World) (hl : l ≠ 1) (hb : b < 256) :
    Calls Try.prog 45 #[.int .i64 b, .int .i64 p] w fun e w' => e = .returned (.bool (romHolds l b p)) ∧ w' = w := by
  have e0 := i64_and_nat b 64 (by omega) (by omega)
  rw [show ((64 : Nat) : Int) = 64 from rfl] at e0
  have e1 := and64 b hb
  have hr : romHolds l b p = decide (b / 64 % 2 = 1 ∨ 32768 ≤ p) := if_neg hl
  rw [hr]
  clear hr
  by_cases h : b / 64 % 2 = 1
  · rw [decide_eq_true h, Bool.not_true, beq_eq_false_iff_ne] at e1
    have e2 : (bits .and .i64 (b : Int) 64 == 0) = false := by rw [e0, beq_eq_false_iff_ne]; omega
    have e3 : (bits .and .i64 (b : Int) 64 != 0) = true := by rw [bne, e2]; rfl
    clear e0 e1
    go_enter Try.func45, Try.ntmps45
    go_wp2
    go_ret
    exact ⟨by simp [h], rfl⟩
  · rw [decide_eq_false h, Bool.not_false, beq_iff_eq] at e1
    rw [e1, show ((0 : Nat) : Int) = 0 from rfl] at e0
    clear e1
    go_enter Try.func45, Try.ntmps45
    go_wp2
    go_ret
    refine ⟨?_, rfl⟩
    exact ret_bool (decide_eq_decide.2 (by omega))
theorem hi4 (l b p X : Nat) (w : World) (hl : l ≠ 1) (hb : b < 256) (hp : p < 65536) (hX : w.cell? ⟨X, 0, none⟩ = some (.int .i64 (moreOf l : Nat))) :
    Calls Try.prog 46 #[.int .i64 b, .int .i64 p, .pointer (some ⟨X, 0, none⟩)] w fun e w' => e = .returned (.int .i64 (romAt l b p : Nat)) ∧ w' = w := by
  have e0 := i64_and_nat b 63 (by omega) (by omega)
  rw [show ((63 : Nat) : Int) = 63 from rfl, and63 b hb] at e0
  have hx : b % 64 < 64 := Nat.mod_lt _ (by decide)
  have hr : romAt l b p = b % 64 * 65536 + p + (if b < 128 then moreOf l else 0) := if_neg hl
  have hm : moreOf l ≤ 4194304 := by unfold moreOf; split <;> omega
  rw [hr]
  clear hr
  generalize b % 64 = x at *
  generalize moreOf l = M at *
  by_cases h : b < 128
  · rw [if_pos h]
    have h3 : (b : Int) < 128 := by omega
    go_enter Try.func46, Try.ntmps46
    go_wp2
    go_ret
    refine ⟨?_, rfl⟩
    exact ret_int (by omega)
  · rw [if_neg h]
    have h3 : ¬ (b : Int) < 128 := by omega
    go_enter Try.func46, Try.ntmps46
    go_wp2
    go_ret
    refine ⟨?_, rfl⟩
    exact ret_int (by omega)
theorem apart_any (a : Nat) (w : World) (ha : a < 4294967296) :
    Calls Try.prog 26 #[.int .u32 a] w fun e w' => e = .returned (.tuple #[.int .i64 (a / 65536 % 256 : Nat), .int .i64 (a % 65536 : Nat)]) ∧ w' = w := by
  have e0 : bits .and .u32 ((a : Int) / 65536) 255 = ((a / 65536 % 256 : Nat) : Int) := by
    have := u32_and_nat (a / 65536) 255 (by omega) (by omega)
    rw [show (255 : Nat) = 2 ^ 8 - 1 from rfl, Nat.and_two_pow_sub_one_eq_mod] at this
    exact this
  have e1 : bits .and .u32 (a : Int) 65535 = ((a % 65536 : Nat) : Int) := by
    have := u32_and_nat a 65535 (by omega) (by omega)
    rw [show (65535 : Nat) = 2 ^ 16 - 1 from rfl, Nat.and_two_pow_sub_one_eq_mod] at this
    exact this
  have h1 : a / 65536 % 256 < 256 := Nat.mod_lt _ (by decide)
  have h2 : a % 65536 < 65536 := Nat.mod_lt _ (by decide)
  generalize a / 65536 % 256 = x at *
  generalize a % 65536 = y at *
  go_enter Try.func26, Try.ntmps26
  go_wp2
  go_ret2
  exact ⟨rfl, rfl⟩
end Go.Proofs.Ythhahhmdpjchkaa

/-
  Carries, sums and signs of the document's sum of digits: those of the code; all flags in either order.
-/
import Derived.Test.YtnjbgnkbncjnlaaRDigs
namespace Go.Proofs.Ytnjbgnkbncjnlaa
open Go.RowKit Go.Shelf
set_option maxRecDepth 100000
set_option maxHeartbeats 1000000
set_option linter.unusedVariables false
def stC (cor : Nat → Nat × Nat) (a t c : Nat) : Nat → Nat
  | 0 => c
  | 1 => (q0 cor a t c).2
  | 2 => (q1 cor a t c).2
  | 3 => (q2 cor a t c).2
  | _ => (q3 cor a t c).2
def stR (cor : Nat → Nat × Nat) (a t c : Nat) : Nat → Nat
  | 0 => (q0 cor a t c).1
  | 1 => (q1 cor a t c).1
  | 2 => (q2 cor a t c).1
  | _ => (q3 cor a t c).1
def stX (cor : Nat → Nat × Nat) (a t c : Nat) : Nat → Nat
  | 0 => 0
  | 1 => (q0 cor a t c).1
  | 2 => (q0 cor a t c).1 + (q1 cor a t c).1 * 16
  | 3 => (q0 cor a t c).1 + (q1 cor a t c).1 * 16 + (q2 cor a t c).1 * 256
  | _ => (q0 cor a t c).1 + (q1 cor a t c).1 * 16 + (q2 cor a t c).1 * 256 + (q3 cor a t c).1 * 4096
def stS (cor : Nat → Nat × Nat) (a t c : Nat) : Nat → Nat
  | 0 => 0
  | 1 => (a % 16 + t % 16 + c) / 8 % 2
  | 2 => (a / 16 % 16 + t / 16 % 16 + (q0 cor a t c).2) / 8 % 2
  | 3 => (a / 256 % 16 + t / 256 % 16 + (q1 cor a t c).2) / 8 % 2
  | _ => (a / 4096 % 16 + t / 4096 % 16 + (q2 cor a t c).2) / 8 % 2
theorem steps_ok (cor : Nat → Nat × Nat) (hk : Cor cor) (n a t c : Nat) (hn : n ≤ 4) (hc : c < 2) : Steps cor n a t c (stC cor a t c) (stX cor a t c) (stS cor a t c) (stR cor a t c) := by
  obtain ⟨⟨z0, u0⟩, ⟨z1, u1⟩, ⟨z2, u2⟩, ⟨z3, u3⟩⟩ := digs_lt cor hk a t c hc
  refine ⟨rfl, rfl, rfl, ?_, ?_, ?_, ?_, ?_⟩
  · intro k h
    obtain rfl | rfl | rfl | rfl : k = 0 ∨ k = 1 ∨ k = 2 ∨ k = 3 := by omega
    · rw [show (16 : Nat) ^ 0 = 1 from rfl, Nat.div_one, Nat.div_one]
      rfl
    · rfl
    · rfl
    · rfl
  · intro k h
    obtain rfl | rfl | rfl | rfl : k = 0 ∨ k = 1 ∨ k = 2 ∨ k = 3 := by omega
    · show (q0 cor a t c).1 = 0 + (q0 cor a t c).1 * 1
      omega
    · rfl
    · rfl
    · rfl
  · intro k h
    obtain rfl | rfl | rfl | rfl : k = 0 ∨ k = 1 ∨ k = 2 ∨ k = 3 := by omega
    · rw [show (16 : Nat) ^ 0 = 1 from rfl, Nat.div_one, Nat.div_one]
      rfl
    · rfl
    · rfl
    · rfl
  · intro k h
    obtain rfl | rfl | rfl | rfl | rfl : k = 0 ∨ k = 1 ∨ k = 2 ∨ k = 3 ∨ k = 4 := by omega
    · exact hc
    · exact u0
    · exact u1
    · exact u2
    · exact u3
  · intro k h
    obtain rfl | rfl | rfl | rfl | rfl : k = 0 ∨ k = 1 ∨ k = 2 ∨ k = 3 ∨ k = 4 := by omega
    · show 0 < 1
      omega
    · exact z0
    · show (q0 cor a t c).1 + (q1 cor a t c).1 * 16 < 256
      omega
    · show (q0 cor a t c).1 + (q1 cor a t c).1 * 16 + (q2 cor a t c).1 * 256 < 4096
      omega
    · show (q0 cor a t c).1 + (q1 cor a t c).1 * 16 + (q2 cor a t c).1 * 256 + (q3 cor a t c).1 * 4096 < 65536
      omega
theorem stX_2 (cor : Nat → Nat × Nat) (a t c : Nat) (ha : a < 256) : stX cor a t c 2 = dX cor false a t c := by
  show (q0 cor a t c).1 + (q1 cor a t c).1 * 16 = (q0 cor a t c).1 + 16 * (q1 cor a t c).1 + 256 * (a / 256 % 16) + 4096 * (a / 4096 % 16)
  rw [Nat.div_eq_of_lt ha, Nat.div_eq_of_lt (Nat.lt_trans ha (show 256 < 4096 by decide))]
  omega
theorem stX_4 (cor : Nat → Nat × Nat) (a t c : Nat) : stX cor a t c 4 = dX cor true a t c := by
  show (q0 cor a t c).1 + (q1 cor a t c).1 * 16 + (q2 cor a t c).1 * 256 + (q3 cor a t c).1 * 4096 = (q0 cor a t c).1 + 16 * (q1 cor a t c).1 + 256 * (q2 cor a t c).1 + 4096 * (q3 cor a t c).1
  omega
theorem bit8 (s : Nat) : s / 8 % 2 = nat (s &&& 8 != 0) := by
  have := nat_bit 3 s
  simp only [Nat.reducePow] at this
  rw [this]
  rcases Nat.mod_two_eq_zero_or_one (s / 8) with h | h <;> rw [h] <;> rfl
theorem odd_nat (a : Nat) : a % 2 = nat (a % 2 == 1) := by
  rcases Nat.mod_two_eq_zero_or_one a with h | h <;> rw [h] <;> rfl
theorem one_nat (a : Nat) (h : a < 2) : a = nat (a != 0) := by
  obtain rfl | rfl : a = 0 ∨ a = 1 := by omega
  · rfl
  · rfl
theorem nat_v (p q r : Bool) : nat (nat p == nat q && nat r != nat p) = nat (p == q && p != r) := by cases p <;> cases q <;> cases r <;> rfl
theorem dec8 : ∀ p, p < 256 → (p &&& 8 != 0) = (p / 8 % 2 == 1) := by decide +kernel
theorem fl4 : ∀ p, p < 256 → ∀ n v z c : Bool, flg p n v z c = setF (setF (setF (setF p 128 n) 64 v) 2 z) 1 c := by decide +kernel
theorem fl3 : ∀ p, p < 256 → ∀ n z c : Bool, flg3 p n z c = setF (setF (setF p 128 n) 2 z) 1 c := by decide +kernel
/-- The code and the document do the same. -/
def Same (op a b p : Nat) (wide : Bool) : Prop := ∃ X F : Nat, DoIs op a b p wide X F ∧ ∀ w : World, Calls Try.prog 9 #[.int .u8 op, .int .u16 a, .int .u16 b, .int .u8 p, .bool wide] w fun e w' => e = .returned (.tuple #[.int .u16 X, .int .u8 F, .bool true]) ∧ Below w.heap.size w w'
end Go.Proofs.Ytnjbgnkbncjnlaa
